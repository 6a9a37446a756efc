/-
  Topo of the specification. Conditions: the slice reads as a graph of at most 1000 nodes with at most 1000 successors each.
-/
import Derived.Test.YthgfomjmkmkhkaaT
namespace Go.Proofs.Ythgfomjmkmkhkaa
open Go.RowKit
set_option linter.unusedSimpArgs false
set_option linter.unusedVariables false
/-- the least node from k on that may stand next, or -1 -/
def nxI (g : Gr) (done : List Nat) (k : Nat) : Int := match ((List.range g.length).drop k).find? (freeB g done) with
  | some b => (b : Int)
  | none => -1
theorem nxI_at {g : Gr} {done : List Nat} {k : Nat} (h : k < g.length) : nxI g done k = if freeB g done k = true then (k : Int) else nxI g done (k + 1) := by
  unfold nxI
  rw [List.drop_eq_getElem_cons (by simpa using h), List.find?_cons, List.getElem_range]
  by_cases hf : freeB g done k = true
  · rw [if_pos hf, hf]
  · rw [if_neg hf]; simp only [Bool.not_eq_true] at hf; rw [hf]
theorem nxI_end {g : Gr} {done : List Nat} {k : Nat} (h : g.length ≤ k) : nxI g done k = -1 := by
  unfold nxI; rw [List.drop_eq_nil_of_le (by simpa using h)]; rfl
theorem nxI_zero (g : Gr) (done : List Nat) : nxI g done 0 = match nxt g done with | some b => (b : Int) | none => -1 := rfl
theorem freeB_eq (g : Gr) (done : List Nat) (b : Nat) : freeB g done b = (!done.contains b && freeP g done b 0) := rfl
/-- what Topo gives -/
def topoR (g : Gr) : List Nat × Bool := if (topo g g.length []).length = g.length then (topo g g.length [], true) else ([], false)
theorem topo_some {g : Gr} {done : List Nat} {k b : Nat} (h : nxt g done = some b) : topo g (k + 1) done = topo g k (done ++ [b]) := by
  show (match nxt g done with | none => done | some b => topo g k (done ++ [b])) = _
  rw [h]
theorem topo_none {g : Gr} {done : List Nat} {k : Nat} (h : nxt g done = none) : topo g (k + 1) done = done := by
  show (match nxt g done with | none => done | some b => topo g k (done ++ [b])) = _
  rw [h]
theorem ri_own {w : World} {B : Nat} {A : Option Addr} {c : Nat} {xs : List Int} (h : w.ownsRow B 3 1 (.slice A xs.length c) xs.length (icells xs)) : RI w w.heap.size A xs := by
  refine ⟨fun k hk => ?_⟩
  rcases h.2 with ⟨_, h0⟩ | ⟨g, cap, cur, hv, hbg, hg, r⟩
  · exact absurd (show xs.length = 0 by first | exact h0 | simpa [icells] using h0) (by omega)
  · injection hv with e1 e2 e3
    subst e1
    refine ⟨⟨g, 0, none⟩, rfl, (Array.getElem?_eq_some_iff.1 hg).1, ?_⟩
    rw [show (⟨g, 0, none⟩ : Addr).add k = ⟨g, k, none⟩ by simp [Addr.add]; exact fun e => e.symm]
    rw [World.ownsRow.cellAt h k (by simp [icells]; exact hk)]
    simp [icells, List.getD_eq_getElem?_getD, List.getElem?_eq_getElem hk]
/-- what a call gives that returns a list and a Boolean -/
def GivesIB (xs : List Int) (b : Bool) (w : World) : Ending → World → Prop := fun e w' => ∃ A c, e = .returned (.tuple #[.slice A xs.length c, .bool b]) ∧ RI w' w'.heap.size A xs ∧ Below w.heap.size w w'
set_option maxRecDepth 100000 in
set_option maxHeartbeats 4000000 in
theorem rtopo_any (A : Option Addr) (c : Nat) (gs : Gr) (w : World) (h : RG w w.heap.size A gs) (hl : gs.length ≤ 1000) (hl2 : ∀ l ∈ gs, l.length ≤ 1000) :
    Calls Try.prog 26 #[.slice A gs.length c] w (GivesIB (ints (topoR gs).1) (topoR gs).2 w) := by
  have HX := Lib.hid h
  have HF : Hid (∀ (B : Option Addr) (d : Nat) (done : List Nat) (b : Nat) (W : World), RI W W.heap.size B (ints done) → done.length ≤ 1000 → Below w.heap.size w W → Calls Try.prog 46 #[.slice A gs.length c, .slice B done.length d, .int .i64 (b : Int)] W fun e w' => e = .returned (.bool (freeP gs done b 0)) ∧ Below W.heap.size W w') := Lib.hid fun B d done b W hr hd hb => free_any A B c d gs done b W (HX.out.up hb) hr hl hl2 hd
  have HH : Hid (∀ (B : Option Addr) (d : Nat) (done : List Nat) (a : Nat) (W : World), RI W W.heap.size B (ints done) → done.length ≤ 1000 → Calls Try.prog 45 #[.slice B done.length d, .int .i64 (a : Int)] W fun e w' => e = .returned (.bool (done.contains a)) ∧ Below W.heap.size W w') := Lib.hid fun B d done a W hr hd => by
    have := has_any B d (ints done) (a : Int) W hr (by rw [ints_len]; exact hd)
    rw [ints_len, ints_contains] at this
    exact this
  clear HX h hl2
  obtain ⟨n, hn⟩ : ∃ n, gs.length = n := ⟨_, rfl⟩
  rw [hn] at HF hl ⊢
  have HN := Lib.hid hn
  clear hn
  go_enter Try.func26, Try.ntmps26
  go_wp2_with fail
  go_loopw [4, 5, 6] (fun s4 _ _ wr => ∃ (done : List Nat) (A1 : Option Addr) (c1 : Nat), s4 = .slice A1 done.length c1 ∧ done.length ≤ n ∧ Hid (topo gs (n - done.length) done = topo gs n []) ∧ Hid (wr.ownsRow w.heap.size 3 1 (.slice A1 done.length c1) done.length (icells (ints done))) ∧ Hid (Below w.heap.size w wr)) (fun s4 _ _ _ => match s4 with | .slice _ l _ => (n - l : Nat) | _ => 0)
  case atStart => exact ⟨[], none, 0, rfl, by simp, Lib.hid rfl, Lib.hid (World.ownsRow_nil _ _ _ _), Lib.hid (Below.refl _ _)⟩
  case round =>
    obtain ⟨done, A1, c1, rfl, hd, HT, HO, HB⟩ := hrel
    by_cases hlt : done.length < n
    · have hki : (done.length : Int) < (n : Int) := by omega
      have HDN := Lib.hid hlt
      clear hlt
      go_wp2_with fail
      go_loopw [5, 6] (fun s5 s6 wr => ∃ k : Nat, s6 = .int .i64 ((k : Int) - 1) ∧ k ≤ n ∧ s5 = .int .i64 (nxI gs done k) ∧ Hid (wr.ownsRow w.heap.size 3 1 (.slice A1 done.length c1) done.length (icells (ints done))) ∧ Hid (Below w.heap.size w wr)) (fun _ s6 _ => (intOf s6 + 1).toNat)
      case atStart => exact ⟨n, rfl, by omega, by rw [nxI_end (by rw [HN.out]; exact Nat.le_refl _)], HO, HB⟩
      case round =>
        obtain ⟨k, rfl, hk, rfl, HO, HB⟩ := hrel
        by_cases hk0 : 0 < k
        · obtain ⟨m, rfl⟩ : ∃ m, k = m + 1 := ⟨k - 1, by omega⟩
          have e0 : (((m + 1 : Nat) : Int) - 1) = (m : Int) := by omega
          rw [e0]
          have hmn : m < n := by omega
          have hm0 : (0 : Int) ≤ (m : Int) := by omega
          have HMN := Lib.hid hmn
          have hd9 : done.length ≤ 1000 := by have := HDN.out; omega
          have CH := Lib.hid (HH.out A1 c1 done m wr (ri_own (xs := ints done) (by rw [ints_len]; exact HO.out) |> fun h => h) hd9)
          have HNX := Lib.hid (nxI_at (g := gs) (done := done) (k := m) (by rw [HN.out]; exact hmn))
          have HFB := Lib.hid (freeB_eq gs done m)
          have hm9 : (m : Int) ≤ 1000 := by omega
          clear hmn hk hk0
          generalize done.contains m = G at *
          cases G with
          | true =>
            have HV : Hid (nxI gs done (m + 1) = nxI gs done m) := Lib.hid (by rw [HNX.out, if_neg (by rw [HFB.out]; simp)])
            clear HNX HFB
            generalize nxI gs done (m + 1) = V at *
            go_wp2_with fail
            refine CH.out.mono ?_
            rintro e w3 ⟨rfl, hb3⟩
            have HB3 := Lib.hid (HB.out.trans (hb3.mono HB.out.size))
            have HO3 := Lib.hid (own_below HO.out hb3)
            clear hb3 CH HB HO
            go_wp2_with fail
            go_roundw
            case rel => exact ⟨m, by go_num, by have := HMN.out; omega, by rw [HV.out], HO3, HB3⟩
            case measure => first | (simp [intOf]; done) | (simp [intOf]; omega)
          | false =>
            go_wp2_with fail
            refine CH.out.mono ?_
            rintro e w3 ⟨rfl, hb3⟩
            have HB3 := Lib.hid (HB.out.trans (hb3.mono HB.out.size))
            have HO3 := Lib.hid (own_below HO.out hb3)
            have CF := Lib.hid (HF.out A1 c1 done m w3 (ri_own (xs := ints done) (by rw [ints_len]; exact HO3.out)) hd9 HB3.out)
            clear hb3 CH HB HO
            generalize freeP gs done m 0 = G at *
            cases G with
            | true =>
              have HV : Hid ((m : Int) = nxI gs done m) := Lib.hid (by rw [HNX.out, if_pos (by rw [HFB.out]; rfl)])
              clear HNX HFB
              go_wp2_with fail
              refine CF.out.mono ?_
              rintro e w4 ⟨rfl, hb4⟩
              have HB4 := Lib.hid (HB3.out.trans (hb4.mono HB3.out.size))
              have HO4 := Lib.hid (own_below HO3.out hb4)
              clear hb4 CF HB3 HO3
              go_wp2_with fail
              go_roundw
              case rel => exact ⟨m, by go_num, by have := HMN.out; omega, by rw [← HV.out], HO4, HB4⟩
              case measure => first | (simp [intOf]; done) | (simp [intOf]; omega)
            | false =>
              have HV : Hid (nxI gs done (m + 1) = nxI gs done m) := Lib.hid (by rw [HNX.out, if_neg (by rw [HFB.out]; simp)])
              clear HNX HFB
              generalize nxI gs done (m + 1) = V at *
              go_wp2_with fail
              refine CF.out.mono ?_
              rintro e w4 ⟨rfl, hb4⟩
              have HB4 := Lib.hid (HB3.out.trans (hb4.mono HB3.out.size))
              have HO4 := Lib.hid (own_below HO3.out hb4)
              clear hb4 CF HB3 HO3
              go_wp2_with fail
              go_roundw
              case rel => exact ⟨m, by go_num, by have := HMN.out; omega, by rw [HV.out], HO4, HB4⟩
              case measure => first | (simp [intOf]; done) | (simp [intOf]; omega)
        · obtain rfl : k = 0 := by omega
          have e0 : (((0 : Nat) : Int) - 1) = -1 := by decide
          rw [e0]
          have HZ := Lib.hid (nxI_zero gs done)
          obtain ⟨q, hq⟩ : ∃ q, n - done.length = q + 1 := ⟨n - done.length - 1, by have := HDN.out; omega⟩
          cases hx : nxt gs done with
          | none =>
            have hz : nxI gs done 0 = -1 := by rw [HZ.out, hx]
            have HTT : Hid (topo gs n [] = done) := Lib.hid (by rw [← HT.out, hq, topo_none hx])
            have HR : Hid (topoR gs = ([], false)) := Lib.hid (by unfold topoR; rw [HN.out, HTT.out, if_neg (by have := HDN.out; omega)])
            rw [hz]
            clear hz hx hq HZ
            go_wp2_with fail
            go_ret2
            rw [HR.out]
            exact ⟨none, 0, rfl, ⟨fun k hk => by simp [ints] at hk⟩, HB.out⟩
          | some b =>
            have hz : nxI gs done 0 = (b : Int) := by rw [HZ.out, hx]
            have HTT : Hid (topo gs (n - (done ++ [b]).length) (done ++ [b]) = topo gs n []) := Lib.hid (by rw [← HT.out, hq, topo_some hx, List.length_append]; congr 1; simp; omega)
            rw [hz]
            clear hz hx hq HZ HT
            have hb0 : ¬ (b : Int) < 0 := by omega
            have hd9 : done.length ≤ 1000 := by have := HDN.out; omega
            have hw9 : w.heap.size ≤ wr.heap.size := HB.out.size
            go_wp2_with (at_builtin; refine wpList_append_int rfl _ _ rfl w.heap.size (.slice A1 done.length c1) (ints done) (b : Int) rfl (by rw [ints_len]; exact HO.out.alloc _) _ rfl ?c1 ?c2 ?c3 ?_)
            case c1 => have := (MapKept.heap_alloc wr (.cells #[.int .i64 (b : Int)] 3)).1; simpa using this
            case c2 => rw [ints_len]; exact hd9
            case c3 => first | omega | (simp; omega) | (simp [World.alloc]; omega)
            intro v' w3 h3 g3
            have e1 : (ints done).length + 1 = (done ++ [b]).length := by simp [ints]
            have e2 : ints done ++ [(b : Int)] = ints (done ++ [b]) := by simp [ints]
            rw [e1, e2] at h3
            obtain ⟨A3, c3, rfl⟩ := own_vis h3
            have HO3 := Lib.hid h3
            have HB3 := Lib.hid ((HB.out.alloc HB.out.size (.cells #[.int .i64 (b : Int)] 3)).grown g3 (by simp; omega) (fun j hj => (HO.out.lt j hj).1))
            have HLN := Lib.hid (show (done ++ [b]).length ≤ n by simp; exact HDN.out)
            have HL2 := Lib.hid (show (done ++ [b]).length = done.length + 1 by simp)
            clear h3 g3 e1 e2 HO HB
            generalize done ++ [b] = done2 at *
            go_wp2_with fail
            go_roundw
            case rel => exact ⟨done2, A3, c3, rfl, HLN.out, HTT, HO3, HB3⟩
            case measure => have := HL2.out; have := HDN.out; show n - done2.length < n - done.length; omega
    · have hde : done.length = n := by omega
      have HTT : Hid (topo gs n [] = done) := Lib.hid (by rw [← HT.out, hde, Nat.sub_self]; rfl)
      have HR : Hid (topoR gs = (done, true)) := Lib.hid (by unfold topoR; rw [HN.out, HTT.out, if_pos hde])
      have hki : ¬ (done.length : Int) < (n : Int) := by omega
      clear hde hlt
      go_wp2_with fail
      go_ret2
      rw [HR.out]
      exact ⟨A1, c1, by rw [ints_len]; rfl, ri_own (xs := ints done) (by rw [ints_len]; exact HO.out), HB.out⟩
end Go.Proofs.Ythgfomjmkmkhkaa
