/-
  The lines of a text: plain mathematics, and Lines of the specification. No condition but the length.
-/
import Derived.Test.YtlanjfjmffcgdaaG
import Derived.Laws.RangeAny
import Derived.Lib.OthersKept
namespace Go.Proofs.Ytlanjfjmffcgdaa
open Go.RowKit
set_option linter.unusedSimpArgs false
set_option linter.unusedVariables false
def ch (s : ByteArray) (p : Nat) : Nat := if h : p < s.size then (s[p]'h).toNat else 0
theorem ch_at (s : ByteArray) (p : Nat) (h : p < s.size) : (s[p]'h).toNat = ch s p := by unfold ch; rw [dif_pos h]
theorem ch_get (s : ByteArray) (p : Nat) (h : p < s.size) : (s.get! p).toNat = ch s p := by
  have := get_at s p h
  rw [← ch_at s p h, ← this]; rfl
/-- the lines from start a on, read from place p on -/
def linF (s : ByteArray) : Nat → Nat → Nat → List ByteArray
  | 0, a, _ => if a < s.size then [s.extract a s.size] else []
  | f + 1, a, p => if ch s p = 10 then s.extract a (p + 1) :: linF s f (p + 1) (p + 1) else linF s f a (p + 1)
def linP (s : ByteArray) (a p : Nat) : List ByteArray := linF s (s.size - p) a p
theorem linP_1 {s : ByteArray} {a p : Nat} (h : p < s.size) (h1 : ch s p = 10) : linP s a p = s.extract a (p + 1) :: linP s (p + 1) (p + 1) := by
  unfold linP
  rw [show s.size - p = (s.size - (p + 1)) + 1 by omega, linF, if_pos h1]
theorem linP_2 {s : ByteArray} {a p : Nat} (h : p < s.size) (h1 : ch s p ≠ 10) : linP s a p = linP s a (p + 1) := by
  unfold linP
  rw [show s.size - p = (s.size - (p + 1)) + 1 by omega, linF, if_neg h1]
theorem linP_3 {s : ByteArray} {a p : Nat} (h : s.size ≤ p) (h1 : a < s.size) : linP s a p = [s.extract a s.size] := by
  unfold linP
  rw [show s.size - p = 0 by omega, linF, if_pos h1]
theorem linP_4 {s : ByteArray} {a p : Nat} (h : s.size ≤ p) (h1 : ¬ a < s.size) : linP s a p = [] := by
  unfold linP
  rw [show s.size - p = 0 by omega, linF, if_neg h1]
theorem linP_skip {s : ByteArray} {a : Nat} : ∀ (d p : Nat), (∀ k, k < d → p + k < s.size ∧ ch s (p + k) ≠ 10) → linP s a p = linP s a (p + d)
  | 0, p, _ => rfl
  | d + 1, p, h => by
    have h0 : p < s.size ∧ ch s p ≠ 10 := by simpa using h 0 (by omega)
    rw [linP_2 h0.1 h0.2, linP_skip d (p + 1) (fun k hk => by have := h (k + 1) (by omega); rw [show p + 1 + k = p + (k + 1) by omega]; exact this)]
    congr 1; omega
def linL (s : ByteArray) : List ByteArray := linP s 0 0
theorem decode_skip (s : ByteArray) (p : Nat) (h : p < s.size) (ha : 128 ≤ ch s p) : ∀ k, k < (Utf8.decode s p).2 → p + k < s.size ∧ ch s (p + k) ≠ 10 := by
  intro k hk
  have hg := get_at s p h
  have e0 := ch_at s p h
  have hn : ¬ (s[p]'h).toNat < 128 := by omega
  have c1 : ∀ j, p + j < s.size → (s.get! (p + j)).toNat / 64 = 2 → ch s (p + j) ≠ 10 := by
    intro j hj hd; rw [ch_get s (p + j) hj] at hd; omega
  rcases Nat.eq_zero_or_pos k with rfl | hk0
  · exact ⟨h, by simp; omega⟩
  simp only [Utf8.decode, hg, hn, if_false] at hk
  revert hk
  repeat' split
  all_goals intro hk
  all_goals simp at hk
  all_goals (try (exfalso; omega))
  all_goals simp_all
  · obtain rfl : k = 1 := by omega
    rename_i hh _
    exact ⟨hh.2.1, c1 1 hh.2.1 hh.2.2⟩
  · rename_i hh _
    have : k = 1 ∨ k = 2 := by omega
    rcases this with rfl | rfl
    · exact ⟨hh.1.2.1, c1 1 hh.1.2.1 hh.1.2.2⟩
    · exact ⟨hh.2.1, c1 2 hh.2.1 hh.2.2⟩
  · rename_i hh _
    have : k = 1 ∨ k = 2 ∨ k = 3 := by omega
    rcases this with rfl | rfl | rfl
    · exact ⟨hh.1.1.2.1, c1 1 hh.1.1.2.1 hh.1.1.2.2⟩
    · exact ⟨hh.1.2.1, c1 2 hh.1.2.1 hh.1.2.2⟩
    · exact ⟨hh.2.1, c1 3 hh.2.1 hh.2.2⟩
/-- lines as cells -/
def strs (xs : List ByteArray) : List Value := xs.map Value.string
theorem strs_snoc (xs : List ByteArray) (x : ByteArray) : strs (xs ++ [x]) = strs xs ++ [.string x] := by simp [strs]
theorem Try.info9 : (Try.prog.info? 9).map (fun i => (i.zero, i.size, i.bytes)) = some (some (.string ⟨#[]⟩), 1, 16) := by kernel_rfl
theorem own_kept {B : Nat} {e : TypeId} {k : Nat} {v : Value} {n : Nat} {xs : List Value} {w w' : World} {g : Nat} (h : w.ownsRow B e k v n xs) (hg : w.grownBy w' (some g)) (hB : g < B) : w'.ownsRow B e k v n xs :=
  h.kept hg (by
    cases hv : v.ownBlock with
    | none => exact .inl rfl
    | some b => exact .inr (fun he => by injection he with he; subst he; have := (h.lt b hv).1; omega))
theorem gb_below {a b : World} {r : Option Nat} (h : Below a.heap.size a b) : a.grownBy b r :=
  ⟨h.os, h.tape, h.output, h.size, fun i hi _ => h.block i hi⟩
theorem own_bel {B : Nat} {e : TypeId} {k : Nat} {v : Value} {n : Nat} {xs : List Value} {w w' : World} (h : w.ownsRow B e k v n xs) (hb : Below w.heap.size w w') : w'.ownsRow B e k v n xs :=
  h.kept (gb_below (r := none) hb) (by
    cases hv : v.ownBlock with
    | none => exact .inl rfl
    | some b => exact .inr (by simp))
theorem own_mono {B C : Nat} {e : TypeId} {k : Nat} {v : Value} {n : Nat} {xs : List Value} {w : World} (h : w.ownsRow B e k v n xs) (hC : C ≤ B) : w.ownsRow C e k v n xs := by
  refine ⟨h.1, ?_⟩
  rcases h.2 with h' | ⟨g, cap, cur, hv, hbg, r⟩
  · exact .inl h'
  · exact .inr ⟨g, cap, cur, hv, by omega, r⟩
theorem cells_new1 (w : World) (x : Value) (T : TypeId) : ∀ j u, [x][j]? = some u → (w.alloc (.cells #[x] T)).cell? ((⟨w.heap.size, 0, none⟩ : Addr).add j) = some u := by
  intro j u h
  rw [show (⟨w.heap.size, 0, none⟩ : Addr).add j = ⟨w.heap.size, j, none⟩ by simp [Addr.add]; exact fun e => e.symm, World.cell?_alloc_new]
  simpa using h
/-- what Lines returns -/
def LinP (w : World) (R : List ByteArray) (e : Ending) (w' : World) : Prop := ∃ v, e = .returned v ∧ w'.ownsRow w.heap.size 9 1 v R.length (strs R) ∧ Below w.heap.size w w'
theorem lin_len (s : ByteArray) : ∀ f a p, (linF s f a p).length ≤ f + 1
  | 0, a, p => by unfold linF; split <;> simp
  | f + 1, a, p => by
    unfold linF; split
    · have := lin_len s f (p + 1) (p + 1); simp; omega
    · have := lin_len s f a (p + 1); omega
set_option maxRecDepth 100000 in
set_option maxHeartbeats 4000000 in
theorem rlines_any (s : ByteArray) (hs : s.size ≤ 1000000) (w : World) : Calls Try.prog 23 #[.string s] w (LinP w (linL s)) := by
  obtain ⟨i0, hi, hz0, hz1, hz2⟩ := info_parts Try.info9
  have HR : Hid (([] : List ByteArray) ++ linP s 0 0 = linL s) := Lib.hid rfl
  generalize linL s = R at *
  go_enter Try.func23, Try.ntmps23
  go_wp2_with fail
  go_loopw [3, 4, 5] (fun v a i wr => ∃ (a' p : Nat) (acc : List ByteArray), i = .int .i64 (p : Int) ∧ a = .int .i64 (a' : Int) ∧ p ≤ s.size ∧ a' ≤ p ∧ acc.length ≤ a' ∧ Hid (acc ++ linP s a' p = R) ∧ Hid (wr.ownsRow w.heap.size 9 1 v acc.length (strs acc)) ∧ Hid (Below w.heap.size w wr)) (fun _ _ i _ => s.size - (intOf i).toNat)
  case atStart => exact ⟨0, 0, [], rfl, rfl, by omega, by omega, by simp, HR, Lib.hid (World.ownsRow_nil _ _ _ _), Lib.hid (Below.refl _ _)⟩
  case round =>
    obtain ⟨a, p, acc, rfl, rfl, hp, ha, hal, HS, HO, HB⟩ := hrel
    by_cases hlt : p < s.size
    · have HV := Lib.hid (ch_at s p hlt)
      by_cases h10 : ch s p = 10
      · have hq : ((s[p].toNat : Int) == 10) = true := by rw [HV.out, h10]; rfl
        have HS2 : Hid ((acc ++ [s.extract a (p + 1)]) ++ linP s (p + 1) (p + 1) = R) := Lib.hid (by rw [← HS.out, linP_1 hlt h10]; simp)
        have q5 : (a : Int) ≤ (p : Int) + 1 := by omega
        have q6 : (p : Int) + 1 ≤ (s.size : Int) := by omega
        have q7 : ((p : Int) + 1).toNat = p + 1 := by omega
        have hZ : w.heap.size ≤ wr.heap.size := HB.out.size
        clear HS HV h10
        go_wp2_with (at_builtin; refine wpList_append_own _ rfl _ _ 36 rfl w.heap.size 9 i0 (.string ⟨#[]⟩) 1 16 Try.underlying36 hi hz0 hz1 hz2 rfl (by decide) _ _ _ rfl (HO.out.alloc _) ⟨wr.heap.size, 0, none⟩ 1 1 [.string (s.extract a (p + 1))] rfl rfl ?c1 ?c2 ?c3 ?c4 ?c5 ?_)
        case c1 => exact cells_new1 _ _ _
        case c2 => intro u hu; simp at hu; subst hu; rfl
        case c3 => unfold maxLen; omega
        case c4 => omega
        case c5 => simp; omega
        intro v' w1 hown1 hgrow _
        have hrow := fun j hj => (HO.out.lt j hj).1
        have B1 : Hid (Below w.heap.size w w1) := Lib.hid ((HB.out.alloc HB.out.size _).grown hgrow (by simp; omega) (fun j hj => by have := hrow j hj; omega))
        have O1 : Hid (w1.ownsRow w.heap.size 9 1 v' (acc ++ [s.extract a (p + 1)]).length (strs (acc ++ [s.extract a (p + 1)]))) := Lib.hid (by rw [strs_snoc, List.length_append]; exact hown1)
        have hal2 : (acc ++ [s.extract a (p + 1)]).length ≤ p + 1 := by simp; omega
        clear hown1 hgrow hrow HO HB
        generalize acc ++ [s.extract a (p + 1)] = acc' at *
        go_wp2_with fail
        go_roundw
        case rel => exact ⟨p + 1, p + 1, acc', by go_num, by go_num, by omega, by omega, hal2, HS2, O1, B1⟩
        case measure => simp [intOf]; omega
      · have hq : ((s[p].toNat : Int) == 10) = false := by rw [HV.out]; simp; omega
        have HS2 : Hid (acc ++ linP s a (p + 1) = R) := Lib.hid (by rw [← HS.out, linP_2 hlt h10])
        clear HS HV h10
        go_wp2_with fail
        go_roundw
        case rel => exact ⟨a, p + 1, acc, by go_num, rfl, by omega, by omega, by omega, HS2, HO, HB⟩
        case measure => simp [intOf]; omega
    · by_cases hal3 : a < s.size
      · have HS2 : Hid (acc ++ [s.extract a s.size] = R) := Lib.hid (by rw [← HS.out, linP_3 (by omega) hal3])
        have q6 : (a : Int) ≤ (s.size : Int) := by omega
        have q8 : decide (a < s.size) = true := decide_eq_true hal3
        have hZ : w.heap.size ≤ wr.heap.size := HB.out.size
        clear HS
        go_wp2_with (at_builtin; refine wpList_append_own _ rfl _ _ 36 rfl w.heap.size 9 i0 (.string ⟨#[]⟩) 1 16 Try.underlying36 hi hz0 hz1 hz2 rfl (by decide) _ _ _ rfl (HO.out.alloc _) ⟨wr.heap.size, 0, none⟩ 1 1 [.string (s.extract a s.size)] rfl rfl ?c1 ?c2 ?c3 ?c4 ?c5 ?_)
        case c1 => exact cells_new1 _ _ _
        case c2 => intro u hu; simp at hu; subst hu; rfl
        case c3 => unfold maxLen; omega
        case c4 => omega
        case c5 => simp; omega
        intro v' w1 hown1 hgrow _
        have hrow := fun j hj => (HO.out.lt j hj).1
        have B1 : Hid (Below w.heap.size w w1) := Lib.hid ((HB.out.alloc HB.out.size _).grown hgrow (by simp; omega) (fun j hj => by have := hrow j hj; omega))
        have O1 : Hid (w1.ownsRow w.heap.size 9 1 v' (acc ++ [s.extract a s.size]).length (strs (acc ++ [s.extract a s.size]))) := Lib.hid (by rw [strs_snoc, List.length_append]; exact hown1)
        clear hown1 hgrow hrow HO HB
        rw [HS2.out] at O1
        go_wp2_with fail
        go_ret
        exact ⟨v', rfl, O1.out, B1.out⟩
      · have HS2 : Hid (acc = R) := Lib.hid (by rw [← HS.out, linP_4 (by omega) hal3]; simp)
        have q8 : decide (a < s.size) = false := decide_eq_false hal3
        clear HS
        rw [HS2.out] at HO
        go_wp2_with fail
        go_ret
        exact ⟨_, rfl, HO.out, HB.out⟩
