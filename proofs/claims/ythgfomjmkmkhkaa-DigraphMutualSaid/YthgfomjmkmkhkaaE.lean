/-
  edges of the program, which calls a function for each edge, by any invariant of the function's. Conditions: the slice reads as a graph of at most 1000 nodes with at most 1000 successors each.
-/
import Derived.Test.YthgfomjmkmkhkaaY
import Derived.Test.YthgfomjmkmkhkaaM8
namespace Go.Proofs.Ythgfomjmkmkhkaa
open Go.RowKit
set_option linter.unusedSimpArgs false
set_option linter.unusedVariables false
theorem RG.suc_at {w : World} {B : Nat} {A : Option Addr} {gs : Gr} (h : RG w B A gs) {k : Nat} (hk : k < gs.length) : ∃ ad A1 c1, A = some ad ∧ ad.block < B ∧ w.cell? (ad.add k) = some (.slice A1 (suc gs k).length c1) ∧ RI w B A1 (suc gs k) := by
  have e : suc gs k = gs[k] := by unfold suc; rw [List.getElem?_eq_getElem hk]; rfl
  rw [e]; exact h.at_ k hk
theorem suc_len {gs : Gr} {k b : Nat} (h : ∀ l ∈ gs, l.length ≤ b) : (suc gs k).length ≤ b := by
  unfold suc
  rcases Nat.lt_or_ge k gs.length with hk | hk
  · rw [List.getElem?_eq_getElem hk]; exact h _ (List.getElem_mem hk)
  · rw [List.getElem?_eq_none hk]; simp
set_option maxRecDepth 100000 in
set_option maxHeartbeats 4000000 in
theorem edges_34 (cp : Value) (S : Nat → Nat → World → Prop) (A : Option Addr) (c : Nat) (gs : Gr) (B : Nat) (w : World) (h : RG w B A gs) (hl : gs.length ≤ 1000) (hl2 : ∀ l ∈ gs, l.length ≤ 1000)
    (H0 : S 0 0 w) (HB : ∀ n j W, S n j W → Below B w W) (HK : ∀ n j W W', S n j W → Below W.heap.size W W' → S n j W')
    (HN : ∀ n W, n < gs.length → S n (suc gs n).length W → S (n + 1) 0 W)
    (HZ : ∀ n j x W, (suc gs n)[j]? = some x → (∀ m : Nat, x = (m : Int) → ¬ m < gs.length) → S n j W → S n (j + 1) W)
    (HC : ∀ n j m W, n < gs.length → (suc gs n)[j]? = some ((m : Nat) : Int) → m < gs.length → S n j W → Calls Try.prog 34 #[.int .i64 (n : Int), .int .i64 (m : Int), cp] W fun e w' => e = .returned (.tuple #[]) ∧ S n (j + 1) w') :
    Calls Try.prog 33 #[.slice A gs.length c, .func (.func 34) #[] #[cp]] w fun e w' => e = .returned (.tuple #[]) ∧ S gs.length 0 w' := by
  have HX := Lib.hid h
  have HL := Lib.hid hl2
  have HB := Lib.hid HB
  have HK := Lib.hid HK
  have HN := Lib.hid HN
  have HZ := Lib.hid HZ
  have HC := Lib.hid HC
  have H0 := Lib.hid H0
  have HIS := Lib.hid (fun (x : Int) (W : World) => isnode_any A c gs x W (by omega))
  clear h hl2
  obtain ⟨k, hk⟩ : ∃ k, gs.length = k := ⟨_, rfl⟩
  rw [hk] at hl HIS
  have HKk := Lib.hid hk
  rw [hk]
  clear hk
  go_enter Try.func33, Try.ntmps33
  go_wp2_with fail
  go_loopw [9, 17] (fun s9 _ wr => ∃ (n : Nat), s9 = .int .i64 (n : Int) ∧ n ≤ k ∧ Hid (S n 0 wr)) (fun s9 _ _ => (k - intOf s9).toNat)
  case atStart => exact ⟨0, rfl, by omega, H0⟩
  case round =>
    obtain ⟨n, rfl, hn, HS⟩ := hrel
    by_cases hlt : n < k
    · have hki : (n : Int) < (k : Int) := by omega
      have hk0 : (0 : Int) ≤ (n : Int) := by omega
      have HNK := Lib.hid (show n + 1 ≤ k by omega)
      obtain ⟨ad, A1, c1, hA, hbk, hga0, HRI⟩ := HX.out.suc_at (k := n) (by rw [HKk.out]; exact hlt)
      have hga : wr.cell? (ad.add n) = some (.slice A1 (suc gs n).length c1) := by rw [(HB.out _ _ _ HS.out).cell (by rw [block_of_add]; exact hbk)]; exact hga0
      subst hA
      have hgl : (suc gs n).length ≤ 1000 := suc_len HL.out
      have HRI2 := Lib.hid HRI
      obtain ⟨ys, hys⟩ : ∃ ys, suc gs n = ys := ⟨_, rfl⟩
      rw [hys] at hgl HRI2 hga
      have HYS := Lib.hid hys
      clear hga0 HRI hys hlt
      go_wp2_with fail
      clear hga hki hk0
      go_loopw [17] (fun s17 wr => ∃ (j : Nat), s17 = .int .i64 (j : Int) ∧ j ≤ ys.length ∧ Hid (S n j wr)) (fun s17 _ => (ys.length - intOf s17).toNat)
      case atStart => exact ⟨0, rfl, by omega, HS⟩
      case round =>
        clear HS
        obtain ⟨j, rfl, hj, HS⟩ := hrel
        by_cases hjl : j < ys.length
        · have hki : (j : Int) < (ys.length : Int) := by omega
          have hk0 : (0 : Int) ≤ (j : Int) := by omega
          have HJ1 := Lib.hid (show j + 1 ≤ ys.length by omega)
          obtain ⟨a1, hA1, hl1, c0⟩ := (HRI2.out.below (HB.out _ _ _ HS.out)).at_ j hjl
          subst hA1
          have HX9 : Hid (ys[j]? = some ys[j]) := Lib.hid (List.getElem?_eq_getElem hjl)
          generalize ys[j] = x at *
          clear hjl
          go_wp2_with fail
          refine (HIS.out x wr).mono ?_
          rintro e w2 ⟨rfl, hb2⟩
          have HS2 := Lib.hid (HK.out _ _ _ _ HS.out hb2)
          clear hb2 HS c0
          by_cases hx : 0 ≤ x ∧ x < (k : Int)
          · obtain ⟨m, rfl⟩ : ∃ m : Nat, x = (m : Int) := ⟨x.toNat, by omega⟩
            rw [decide_eq_true hx.1, decide_eq_true hx.2]
            have HCC := Lib.hid (HC.out n j m w2 (by have := HNK.out; have := HKk.out; omega) (by rw [HYS.out]; exact HX9.out) (by have := HKk.out; omega) HS2.out)
            clear hx
            go_wp2_with fail
            refine HCC.out.mono ?_
            rintro e w3 ⟨rfl, hS3⟩
            have HS3 := Lib.hid hS3
            clear hS3 HCC HS2
            go_wp2_with fail
            go_roundw
            case rel => exact ⟨j + 1, by go_num, HJ1.out, HS3⟩
            case measure => have := HJ1.out; first | (simp [intOf]; done) | (simp [intOf]; omega)
          · have q : (decide (0 ≤ x) && decide (x < (k : Int))) = false := by
              rw [← Bool.not_eq_true, Bool.and_eq_true, decide_eq_true_eq, decide_eq_true_eq]; exact hx
            rw [q]
            have HS3 := Lib.hid (HZ.out n j x w2 (by rw [HYS.out]; exact HX9.out) (fun m e hm => by have := HKk.out; omega) HS2.out)
            clear hx q HS2
            go_wp2_with fail
            go_roundw
            case rel => exact ⟨j + 1, by go_num, HJ1.out, HS3⟩
            case measure => have := HJ1.out; first | (simp [intOf]; done) | (simp [intOf]; omega)
        · obtain rfl : j = ys.length := by omega
          have hki : ¬ (ys.length : Int) < (ys.length : Int) := by omega
          have HS3 := Lib.hid (HN.out n wr (by have := HNK.out; have := HKk.out; omega) (by rw [HYS.out]; exact HS.out))
          clear hjl HS
          go_wp2_with fail
          go_roundw
          case rel => exact ⟨n + 1, by go_num, HNK.out, HS3⟩
          case measure => have := HNK.out; first | (simp [intOf]; done) | (simp [intOf]; omega)
    · obtain rfl : n = k := by omega
      have hki : ¬ (n : Int) < (n : Int) := by omega
      clear hlt
      go_wp2_with fail
      go_end0
      exact ⟨rfl, HS.out⟩
set_option maxRecDepth 100000 in
set_option maxHeartbeats 4000000 in
theorem edges_41 (cp : Value) (S : Nat → Nat → World → Prop) (A : Option Addr) (c : Nat) (gs : Gr) (B : Nat) (w : World) (h : RG w B A gs) (hl : gs.length ≤ 1000) (hl2 : ∀ l ∈ gs, l.length ≤ 1000)
    (H0 : S 0 0 w) (HB : ∀ n j W, S n j W → Below B w W) (HK : ∀ n j W W', S n j W → Below W.heap.size W W' → S n j W')
    (HN : ∀ n W, n < gs.length → S n (suc gs n).length W → S (n + 1) 0 W)
    (HZ : ∀ n j x W, (suc gs n)[j]? = some x → (∀ m : Nat, x = (m : Int) → ¬ m < gs.length) → S n j W → S n (j + 1) W)
    (HC : ∀ n j m W, n < gs.length → (suc gs n)[j]? = some ((m : Nat) : Int) → m < gs.length → S n j W → Calls Try.prog 41 #[.int .i64 (n : Int), .int .i64 (m : Int), cp] W fun e w' => e = .returned (.tuple #[]) ∧ S n (j + 1) w') :
    Calls Try.prog 33 #[.slice A gs.length c, .func (.func 41) #[] #[cp]] w fun e w' => e = .returned (.tuple #[]) ∧ S gs.length 0 w' := by
  have HX := Lib.hid h
  have HL := Lib.hid hl2
  have HB := Lib.hid HB
  have HK := Lib.hid HK
  have HN := Lib.hid HN
  have HZ := Lib.hid HZ
  have HC := Lib.hid HC
  have H0 := Lib.hid H0
  have HIS := Lib.hid (fun (x : Int) (W : World) => isnode_any A c gs x W (by omega))
  clear h hl2
  obtain ⟨k, hk⟩ : ∃ k, gs.length = k := ⟨_, rfl⟩
  rw [hk] at hl HIS
  have HKk := Lib.hid hk
  rw [hk]
  clear hk
  go_enter Try.func33, Try.ntmps33
  go_wp2_with fail
  go_loopw [9, 17] (fun s9 _ wr => ∃ (n : Nat), s9 = .int .i64 (n : Int) ∧ n ≤ k ∧ Hid (S n 0 wr)) (fun s9 _ _ => (k - intOf s9).toNat)
  case atStart => exact ⟨0, rfl, by omega, H0⟩
  case round =>
    obtain ⟨n, rfl, hn, HS⟩ := hrel
    by_cases hlt : n < k
    · have hki : (n : Int) < (k : Int) := by omega
      have hk0 : (0 : Int) ≤ (n : Int) := by omega
      have HNK := Lib.hid (show n + 1 ≤ k by omega)
      obtain ⟨ad, A1, c1, hA, hbk, hga0, HRI⟩ := HX.out.suc_at (k := n) (by rw [HKk.out]; exact hlt)
      have hga : wr.cell? (ad.add n) = some (.slice A1 (suc gs n).length c1) := by rw [(HB.out _ _ _ HS.out).cell (by rw [block_of_add]; exact hbk)]; exact hga0
      subst hA
      have hgl : (suc gs n).length ≤ 1000 := suc_len HL.out
      have HRI2 := Lib.hid HRI
      obtain ⟨ys, hys⟩ : ∃ ys, suc gs n = ys := ⟨_, rfl⟩
      rw [hys] at hgl HRI2 hga
      have HYS := Lib.hid hys
      clear hga0 HRI hys hlt
      go_wp2_with fail
      clear hga hki hk0
      go_loopw [17] (fun s17 wr => ∃ (j : Nat), s17 = .int .i64 (j : Int) ∧ j ≤ ys.length ∧ Hid (S n j wr)) (fun s17 _ => (ys.length - intOf s17).toNat)
      case atStart => exact ⟨0, rfl, by omega, HS⟩
      case round =>
        clear HS
        obtain ⟨j, rfl, hj, HS⟩ := hrel
        by_cases hjl : j < ys.length
        · have hki : (j : Int) < (ys.length : Int) := by omega
          have hk0 : (0 : Int) ≤ (j : Int) := by omega
          have HJ1 := Lib.hid (show j + 1 ≤ ys.length by omega)
          obtain ⟨a1, hA1, hl1, c0⟩ := (HRI2.out.below (HB.out _ _ _ HS.out)).at_ j hjl
          subst hA1
          have HX9 : Hid (ys[j]? = some ys[j]) := Lib.hid (List.getElem?_eq_getElem hjl)
          generalize ys[j] = x at *
          clear hjl
          go_wp2_with fail
          refine (HIS.out x wr).mono ?_
          rintro e w2 ⟨rfl, hb2⟩
          have HS2 := Lib.hid (HK.out _ _ _ _ HS.out hb2)
          clear hb2 HS c0
          by_cases hx : 0 ≤ x ∧ x < (k : Int)
          · obtain ⟨m, rfl⟩ : ∃ m : Nat, x = (m : Int) := ⟨x.toNat, by omega⟩
            rw [decide_eq_true hx.1, decide_eq_true hx.2]
            have HCC := Lib.hid (HC.out n j m w2 (by have := HNK.out; have := HKk.out; omega) (by rw [HYS.out]; exact HX9.out) (by have := HKk.out; omega) HS2.out)
            clear hx
            go_wp2_with fail
            refine HCC.out.mono ?_
            rintro e w3 ⟨rfl, hS3⟩
            have HS3 := Lib.hid hS3
            clear hS3 HCC HS2
            go_wp2_with fail
            go_roundw
            case rel => exact ⟨j + 1, by go_num, HJ1.out, HS3⟩
            case measure => have := HJ1.out; first | (simp [intOf]; done) | (simp [intOf]; omega)
          · have q : (decide (0 ≤ x) && decide (x < (k : Int))) = false := by
              rw [← Bool.not_eq_true, Bool.and_eq_true, decide_eq_true_eq, decide_eq_true_eq]; exact hx
            rw [q]
            have HS3 := Lib.hid (HZ.out n j x w2 (by rw [HYS.out]; exact HX9.out) (fun m e hm => by have := HKk.out; omega) HS2.out)
            clear hx q HS2
            go_wp2_with fail
            go_roundw
            case rel => exact ⟨j + 1, by go_num, HJ1.out, HS3⟩
            case measure => have := HJ1.out; first | (simp [intOf]; done) | (simp [intOf]; omega)
        · obtain rfl : j = ys.length := by omega
          have hki : ¬ (ys.length : Int) < (ys.length : Int) := by omega
          have HS3 := Lib.hid (HN.out n wr (by have := HNK.out; have := HKk.out; omega) (by rw [HYS.out]; exact HS.out))
          clear hjl HS
          go_wp2_with fail
          go_roundw
          case rel => exact ⟨n + 1, by go_num, HNK.out, HS3⟩
          case measure => have := HNK.out; first | (simp [intOf]; done) | (simp [intOf]; omega)
    · obtain rfl : n = k := by omega
      have hki : ¬ (n : Int) < (n : Int) := by omega
      clear hlt
      go_wp2_with fail
      go_end0
      exact ⟨rfl, HS.out⟩
end Go.Proofs.Ythgfomjmkmkhkaa
