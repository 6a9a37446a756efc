/-
  complement: the normal spans of the other numbers of an axis. No condition but the bounds on the list.
-/
import Derived.Test.YteekccjfokoglaaK
namespace Go.Proofs.Yteekccjfokoglaa
open Go.RowKit Go.Sort Go.Lib Go.Proofs
set_option linter.unusedSimpArgs false
set_option linter.unnecessarySimpa false
set_option linter.unusedVariables false
/-- the slice lies at N or beyond -/
def Hi (N : Nat) (A : Option Addr) : Prop := ∀ b o, A = some ⟨b, o, none⟩ → N ≤ b
theorem Hi.le {N N' : Nat} {A : Option Addr} (h : Hi N A) (hN : N' ≤ N) : Hi N' A := fun b o e => Nat.le_trans hN (h b o e)
theorem Re.set_other {w : World} {B r j : Nat} {A : Option Addr} {l : List Sp} (h : Re w B A l) (hh : Hi (r + 1) A) (u : Value) : Re (w.setCell ⟨r, j, none⟩ u) B A l :=
  ⟨fun i hi => by
    obtain ⟨b, o, e, hl, c0, c1⟩ := h.at_ i hi
    have hb := hh b o e
    have hne : r ≠ b := by omega
    refine ⟨b, o, e, hl, ?_, ?_⟩
    · simpa [World.cell?, World.setCell, Array.getElem?_modify, hne] using c0
    · simpa [World.cell?, World.setCell, Array.getElem?_modify, hne] using c1⟩
theorem re_of_own {w : World} {B : Nat} {v : Value} {l : List Sp} (h : w.ownsRow B 46 2 v l.length (flat l)) : ∃ A c, v = .slice A l.length c ∧ Re w w.heap.size A l ∧ Plain A c ∧ Hi B A := by
  rcases id h.2 with ⟨h1, h2⟩ | ⟨g, c, cur, rfl, _⟩
  · have : l = [] := List.length_eq_zero_iff.1 h2
    subst this
    exact ⟨none, 0, h1, re_nil _ _ _, .inl ⟨rfl, rfl⟩, fun b o e => by cases e⟩
  · obtain ⟨hBg, _, _, rest, hr, _⟩ := row_of_own' h
    exact ⟨some ⟨g, 0, none⟩, c, rfl, re_row (c := c) hr, .inr ⟨g, 0, rfl⟩, fun b o e => by cases e; exact hBg⟩
/-- a call hands back a new list L -/
def Gives (L : List Sp) (w : World) (e : Ending) (w' : World) : Prop :=
  ∃ A c, e = .returned (.slice A L.length c) ∧ Re w' w'.heap.size A L ∧ (Plain A c ∧ Hi w.heap.size A) ∧ Below w.heap.size w w'
theorem nrm_re (b : Bool) (A : Option Addr) (cap : Nat) (l : List Sp) (w : World) (hR : Re w w.heap.size A l) (hl : okL l) (hf : Plain A cap) :
    Calls Try.prog 52 #[axv b, .slice A l.length cap] w (Gives (nrm b l) w) :=
  (nrm_any b A cap l w hR hl hf).mono fun e w' h => by
    obtain ⟨v, rfl, h1, h2⟩ := h
    obtain ⟨A', c', rfl, h3, h4⟩ := re_of_own h1
    exact ⟨A', c', rfl, h3, h4, h2⟩
theorem nrm_bd (b : Bool) (l : List Sp) (hl : l.length ≤ 100000) : bdL (nrm b l) :=
  ⟨by have := nrm_len b l; omega, fun s hs => ok_bd ((nrm_can b l).1 s hs)⟩
theorem gapsL_i64 (b : Bool) : ∀ (l : List Sp) (x : Int), (∀ s ∈ l, -1000000000000000 ≤ s.1 ∧ s.1 ≤ 1000000000000000 ∧ -1000000000000000 ≤ s.2 ∧ s.2 ≤ 1000000000000000) → -1000000000000000 ≤ x → x ≤ 1000000000000001 → ∀ s ∈ gapsL b x l, i64ok s.1 ∧ i64ok s.2
  | [], x, _, h1, h2, s, hs => by
    have := lim_bd b
    simp [gapsL] at hs; subst hs; unfold i64ok; simp; omega
  | y :: l, x, hb, h1, h2, s, hs => by
    have hy := hb y (List.mem_cons_self ..)
    rw [gapsL] at hs
    rcases List.mem_cons.1 hs with rfl | hs
    · unfold i64ok; simp; omega
    · exact gapsL_i64 b l (y.2 + 1) (fun s hs => hb s (List.mem_cons_of_mem _ hs)) (by omega) (by omega) s hs
theorem gaps_ok (b : Bool) (l : List Sp) (hl : l.length ≤ 100000) : okL (gapsL b (-lim b) (nrm b l)) := by
  have h := nrm_bd b l hl
  have h2 := lim_bd b
  have h3 := nrm_len b l
  exact ⟨by rw [gapsL_len]; omega, gapsL_i64 b _ _ h.2 (by omega) (by omega)⟩
def GapFn (b : Bool) (A : Option Addr) (l : List Sp) (c : Nat) (w : World) (e : Ending) (w' : World) : Prop :=
  ∃ p0 p1, e = .returned (.func (.func 94) #[] #[.pointer (some ⟨p0, 0, none⟩), .pointer (some ⟨p1, 0, none⟩)]) ∧ Gs b A l c p0 p1 w'.heap.size w' ∧ Below w.heap.size w w'
theorem gaps_gs (b : Bool) (A : Option Addr) (l : List Sp) (c : Nat) (w : World) (hR : Re w w.heap.size A l) : Calls Try.prog 86 #[axv b, .slice A l.length c] w (GapFn b A l c w) :=
  (gaps_any b A l.length c w).mono fun e w' h => by
    obtain ⟨rfl, rfl⟩ := h
    have hb : Below w.heap.size w ((w.alloc (.cells #[.int .i64 (lim b), .bool b] 51)).alloc (.cells #[.slice A l.length c] 22)) := ((Below.refl _ _).alloc (Nat.le_refl _) _).alloc (by simp) _
    exact ⟨w.heap.size, w.heap.size + 1, rfl, ⟨by simp, by simp, hR.up hb, by simp; omega, by simp⟩, hb⟩
theorem collect_re (p0 p1 c : Nat) (b : Bool) (A : Option Addr) (l : List Sp) (hl : bdL l) (w : World) (hG : Gs b A l c p0 p1 w.heap.size w) :
    Calls Try.prog 85 #[.func (.func 94) #[] #[.pointer (some ⟨p0, 0, none⟩), .pointer (some ⟨p1, 0, none⟩)]] w (Gives (gapsL b (-lim b) l) w) :=
  (collect_any p0 p1 c b A l hl w hG).mono fun e w' h => by
    obtain ⟨v, rfl, h1, h2⟩ := h
    obtain ⟨A', c', rfl, h3, h4⟩ := re_of_own h1
    exact ⟨A', c', rfl, h3, h4, h2⟩
set_option maxRecDepth 100000 in
set_option maxHeartbeats 4000000 in
theorem cpl_any (b : Bool) (A : Option Addr) (cap : Nat) (l : List Sp) (w : World) (hR : Re w w.heap.size A l) (hl : okL l) (hlen : l.length ≤ 100000) (hf : Plain A cap) :
    Calls Try.prog 63 #[axv b, .slice A l.length cap] w (Gives (cpl b l) w) := by
  have HR := Lib.hid hR
  have HL := Lib.hid hl
  have HF := Lib.hid hf
  have HB0 := Lib.hid (bx_new b w)
  have HBD := Lib.hid (nrm_bd b l hlen)
  have HGO := Lib.hid (gaps_ok b l hlen)
  clear hR hl hf hlen
  go_enter Try.func63, Try.ntmps63
  go_wp2_with fail
  obtain ⟨w1, hw1⟩ : ∃ w1, w1 = w.alloc (.cells #[.int .i64 (lim b), .bool b] 51) := ⟨_, rfl⟩
  rw [← hw1] at HB0 ⊢
  have hR1 := HR.out.up HB0.out.bel
  have HC := Lib.hid (fun W (hb : Below w1.heap.size w1 W) => nrm_re b A cap l W (hR1.up hb) HL.out HF.out)
  have S0 : w1.cell? ⟨w.heap.size, 0, none⟩ = some (.int .i64 (lim b)) ∧ w1.cell? ⟨w.heap.size, 1, none⟩ = some (.bool b) ∧ Below w1.heap.size w1 w1 := ⟨HB0.out.c0, HB0.out.c1, Below.refl _ _⟩
  have z0 : w.heap.size < w1.heap.size := HB0.out.lt
  clear hw1 hR1
  go_region_held3 (fun w' => w'.cell? ⟨w.heap.size, 0, none⟩ = some (.int .i64 (lim b)) ∧ w'.cell? ⟨w.heap.size, 1, none⟩ = some (.bool b) ∧ Below w1.heap.size w1 w') (first | assumption | exact S0 | exact keep2 z0 z0 S0 (drewB _) | exact keep2 z0 z0 (by assumption) hb5 | exact keep2 z0 z0 (by assumption) hb4 | exact keep2 z0 z0 (by assumption) hb3 | exact keep2 z0 z0 (by assumption) hb2 | exact keep2 z0 z0 (by assumption) (drewB _))
    (first | (go_at_call 52; refine (nrm_re b A4 c4 (gapsL b (-lim b) (nrm b l)) _ hre4 HGO.out hf4.1).mono ?_; rintro e w5 ⟨A5, c5, rfl, hre5, hf5, hb5⟩) | (go_at_call 52; refine (HC.out _ (by first | exact drewB _ | exact And.right (And.right (by assumption)))).mono ?_; rintro e w2 ⟨A2, c2, rfl, hre2, hf2, hb2⟩) | (go_at_call 86; refine (gaps_gs b A2 (nrm b l) c2 _ hre2).mono ?_; rintro e w3 ⟨p0, p1, rfl, hgs, hb3⟩) | (go_at_call 85; refine (collect_re p0 p1 c2 b A2 (nrm b l) HBD.out _ hgs).mono ?_; rintro e w4 ⟨A4, c4, rfl, hre4, hf4, hb4⟩))
  all_goals
    have HS5 := Lib.hid (show w5.cell? ⟨w.heap.size, 0, none⟩ = some (.int .i64 (lim b)) ∧ w5.cell? ⟨w.heap.size, 1, none⟩ = some (.bool b) ∧ Below w1.heap.size w1 w5 from by assumption)
    have hsz4 : w1.heap.size ≤ w4.heap.size := by
      have e : w1.drew.heap.size = w1.heap.size := rfl
      have := hb2.size; have := hb3.size; have := hb4.size; omega
    have H5 := Lib.hid (show Gives (cpl b l) w (.returned (.slice A5 (nrm b (gapsL b (-lim b) (nrm b l))).length c5)) w5 from ⟨A5, c5, rfl, hre5, ⟨hf5.1, hf5.2.le (by have := HB0.out.bel.size; have h1 := hsz4; omega)⟩, HB0.out.bel.trans (HS5.out.2.2.mono (Nat.le_of_lt z0))⟩)
    clear hre2 hf2 hb2 hgs hb3 hre4 hf4 hb4 hre5 hf5 hb5
    go_wp2_with fail
    go_ret
    exact H5.out
end Go.Proofs.Yteekccjfokoglaa
