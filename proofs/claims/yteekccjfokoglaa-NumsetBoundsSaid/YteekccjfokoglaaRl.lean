/-
  A region that draws its order, over boxes with sets: what holds of what has been done. No condition.
-/
import Derived.Test.YteekccjfokoglaaRk
import Derived.Test.YteekccjfokoglaaRj
import Derived.Test.YteekccjfokoglaaR
namespace Go.Proofs.Yteekccjfokoglaa
open Go Go.RowKit
set_option linter.unusedSimpArgs false
set_option linter.unusedVariables false
theorem heap_setCell (w : World) (p : Addr) (v : Value) : (w.setCell p v).heap.size = w.heap.size := by simp [World.setCell]
/-- a store into a cell that holds a slice touches no span -/
theorem Re.put {w : World} {B : Nat} {A : Option Addr} {l : List Sp} (h : Re w B A l) {p : Addr} {Y : Option Addr} {n y : Nat} (hp : w.cell? p = some (.slice Y n y)) (u : Value) : Re (w.setCell p u) B A l :=
  ⟨fun i hi => by
    obtain ⟨b, o, e, hl, c0, c1⟩ := h.at_ i hi
    have n0 : p ≠ ⟨b, o + i * 2, none⟩ := fun e => by subst e; rw [c0] at hp; simp at hp
    have n1 : p ≠ ⟨b, o + i * 2 + 1, none⟩ := fun e => by subst e; rw [c1] at hp; simp at hp
    exact ⟨b, o, e, hl, by rw [World.cell?_setCell_other _ _ _ _ n0]; exact c0, by rw [World.cell?_setCell_other _ _ _ _ n1]; exact c1⟩⟩
theorem Ns.put {w : World} {A1 A2 : Option Addr} {c1 c2 : Nat} {s : NS} (h : Ns w A1 c1 A2 c2 s) {p : Addr} {Y : Option Addr} {n y : Nat} (hp : w.cell? p = some (.slice Y n y)) (u : Value) : Ns (w.setCell p u) A1 c1 A2 c2 s :=
  ⟨by rw [heap_setCell]; exact h.r1.put hp u, by rw [heap_setCell]; exact h.r2.put hp u, h.p1, h.p2⟩
/-- a value that is the set S -/
def CR (S : NS) (v : Value) (w : World) : Prop := ∃ X1 x1 X2 x2, v = nv X1 S.1.length x1 X2 S.2.length x2 ∧ Ns w X1 x1 X2 x2 S
theorem CR.up {S : NS} {v : Value} {w w' : World} (h : CR S v w) (hb : Below w.heap.size w w') : CR S v w' := by
  obtain ⟨X1, x1, X2, x2, e, hn⟩ := h; exact ⟨X1, x1, X2, x2, e, hn.up hb⟩
/-- a box of this call's own at b -/
def BAt (st : Bool) (S : NS) (b : Nat) (w : World) : Prop :=
  b < w.heap.size ∧ w.frozen? ⟨b, 0, none⟩ = false ∧ w.frozen? ⟨b, 1, none⟩ = false ∧ ∃ Y1 n1 y1 Y2 n2 y2, w.cell? ⟨b, 0, none⟩ = some (.slice Y1 n1 y1) ∧ w.cell? ⟨b, 1, none⟩ = some (.slice Y2 n2 y2) ∧ (st = true → n1 = S.1.length ∧ n2 = S.2.length ∧ Ns w Y1 y1 Y2 y2 S)
theorem BAt.up {st : Bool} {S : NS} {b : Nat} {w w' : World} (h : BAt st S b w) (hb : Below w.heap.size w w') : BAt st S b w' := by
  obtain ⟨h1, f0, f1, Y1, n1, y1, Y2, n2, y2, c0, c1, hs⟩ := h
  refine ⟨Nat.lt_of_lt_of_le h1 hb.size, by rw [hb.frozen (p := ⟨b, 0, none⟩) h1]; exact f0, by rw [hb.frozen (p := ⟨b, 1, none⟩) h1]; exact f1, Y1, n1, y1, Y2, n2, y2, ?_, ?_, fun h => ?_⟩
  · rw [hb.cell (p := ⟨b, 0, none⟩) h1]; exact c0
  · rw [hb.cell (p := ⟨b, 1, none⟩) h1]; exact c1
  · obtain ⟨e1, e2, hn⟩ := hs h; exact ⟨e1, e2, hn.up hb⟩
theorem bat_new (S : NS) (w : World) : BAt false S w.heap.size (w.alloc (.cells #[.slice none 0 0, .slice none 0 0] 24)) :=
  ⟨by simp, by simp, by simp, none, 0, 0, none, 0, 0, by simp, by simp, fun h => by cases h⟩
/-- the world behind a store of a set into the box at b -/
abbrev stW (w : World) (b : Nat) (X1 : Option Addr) (n1 x1 : Nat) (X2 : Option Addr) (n2 x2 : Nat) : World := (w.setCell ⟨b, 0, none⟩ (.slice X1 n1 x1)).setCell ⟨b, 1, none⟩ (.slice X2 n2 x2)
theorem st_cell {w : World} {b : Nat} {Y1 Y2 : Option Addr} {n1 y1 n2 y2 : Nat} (c0 : w.cell? ⟨b, 0, none⟩ = some (.slice Y1 n1 y1)) (c1 : w.cell? ⟨b, 1, none⟩ = some (.slice Y2 n2 y2)) (X1 : Option Addr) (m1 x1 : Nat) (X2 : Option Addr) (m2 x2 : Nat) :
    (stW w b X1 m1 x1 X2 m2 x2).cell? ⟨b, 0, none⟩ = some (.slice X1 m1 x1) ∧ (stW w b X1 m1 x1 X2 m2 x2).cell? ⟨b, 1, none⟩ = some (.slice X2 m2 x2) ∧ (∀ {A1 A2 : Option Addr} {a1 a2 : Nat} {s : NS}, Ns w A1 a1 A2 a2 s → Ns (stW w b X1 m1 x1 X2 m2 x2) A1 a1 A2 a2 s) := by
  have e1 : (w.setCell ⟨b, 0, none⟩ (.slice X1 m1 x1)).cell? ⟨b, 1, none⟩ = some (.slice Y2 n2 y2) := by rw [World.cell?_setCell_other _ _ _ _ (by simp)]; exact c1
  refine ⟨?_, ?_, fun h => (h.put c0 _).put e1 _⟩
  · show (World.setCell _ _ _).cell? _ = _
    rw [World.cell?_setCell_other _ _ _ _ (by simp)]; exact World.cell?_setCell_same _ _ _ c0
  · exact World.cell?_setCell_same _ _ _ e1
theorem st_far {w : World} {b b' : Nat} (hne : b ≠ b') (X1 : Option Addr) (m1 x1 : Nat) (X2 : Option Addr) (m2 x2 : Nat) (j : Nat) : (stW w b X1 m1 x1 X2 m2 x2).cell? ⟨b', j, none⟩ = w.cell? ⟨b', j, none⟩ := by
  show (World.setCell _ _ _).cell? _ = _
  rw [World.cell?_setCell_other _ _ _ _ (by simp [hne]), World.cell?_setCell_other _ _ _ _ (by simp [hne])]
theorem st_size (w : World) (b : Nat) (X1 : Option Addr) (m1 x1 : Nat) (X2 : Option Addr) (m2 x2 : Nat) : (stW w b X1 m1 x1 X2 m2 x2).heap.size = w.heap.size := by
  show (World.setCell _ _ _).heap.size = _
  rw [heap_setCell, heap_setCell]
theorem BAt.far {st : Bool} {S : NS} {b b' : Nat} {w : World} (h : BAt st S b' w) (hne : b ≠ b') {Y1 Y2 : Option Addr} {n1 y1 n2 y2 : Nat} (c0 : w.cell? ⟨b, 0, none⟩ = some (.slice Y1 n1 y1)) (c1 : w.cell? ⟨b, 1, none⟩ = some (.slice Y2 n2 y2)) (X1 : Option Addr) (m1 x1 : Nat) (X2 : Option Addr) (m2 x2 : Nat) : BAt st S b' (stW w b X1 m1 x1 X2 m2 x2) := by
  obtain ⟨h1, f0, f1, Z1, k1, z1, Z2, k2, z2, d0, d1, hs⟩ := h
  refine ⟨by rw [st_size]; exact h1, by simpa using f0, by simpa using f1, Z1, k1, z1, Z2, k2, z2, by rw [st_far hne]; exact d0, by rw [st_far hne]; exact d1, fun h => ?_⟩
  obtain ⟨e1, e2, hn⟩ := hs h
  exact ⟨e1, e2, (st_cell c0 c1 X1 m1 x1 X2 m2 x2).2.2 hn⟩
/-- what an operation of the region does -/
inductive Pl where
  | load (v : Value)
  | call (S : NS)
  | alloc (st : Nat) (S : NS)
  | store
def BO (base : Nat) (st : Bool) (S : NS) (v : Value) (w : World) : Prop := ∃ b, v = .pointer (some ⟨b, 0, none⟩) ∧ base ≤ b ∧ BAt st S b w
def Spec (base : Nat) (L : Nat → Bool) (p : Pl) (v : Value) (w : World) : Prop := match p with
  | .load u => v = u
  | .call S => CR S v w
  | .alloc st S => BO base (L st) S v w
  | .store => True
structure PlOK (n : Nat) (plan : Nat → Pl) (dst : Nat → Nat) : Prop where
  out : ∀ j, n ≤ j → plan j = .store
  inj : ∀ i j, i < n → j < n → i ≠ j → dst i ≠ dst j
  sts : ∀ j st S, plan j = .alloc st S → plan st = .store
  one : ∀ j k st S S', plan j = .alloc st S → plan k = .alloc st S' → j = k
structure RInv (w1 : World) (plan : Nat → Pl) (dst : Nat → Nat) (L : Nat → Bool) (f : Nat → Value) (w : World) : Prop where
  bel : Below w1.heap.size w1 w
  spec : ∀ i, L i = true → Spec w1.heap.size L (plan i) (f (dst i)) w
  apart : ∀ i j si sj Si Sj, i ≠ j → plan i = .alloc si Si → plan j = .alloc sj Sj → L i = true → L j = true → f (dst i) ≠ f (dst j)
  late : ∀ j st S, plan j = .alloc st S → L st = true → L j = true
theorem updF_self (f : Nat → Value) (t : Nat) (v : Value) : updF f (some t) v t = v := by simp [updF]
theorem updF_ne (f : Nat → Value) {t s : Nat} (v : Value) (h : s ≠ t) : updF f (some t) v s = f s := by simp [updF, h]
section
variable {w1 w w' : World} {n : Nat} {plan : Nat → Pl} {dst : Nat → Nat} {L : Nat → Bool} {f : Nat → Value} {i : Nat}
theorem Spec.up {base : Nat} {p : Pl} {v : Value} (h : Spec base L p v w) (hb : Below w.heap.size w w') : Spec base L p v w' := by
  cases p with
  | load u => exact h
  | call S => exact CR.up h hb
  | alloc st S => obtain ⟨b, e, h1, h2⟩ := h; exact ⟨b, e, h1, h2.up hb⟩
  | store => trivial
/-- a step that makes the value v and only adds to the world -/
theorem RInv.step (h : RInv w1 plan dst L f w) (hp : PlOK n plan dst) (hi : i < n) (hk : plan i ≠ .store) {v : Value} (hb : Below w.heap.size w w')
    (hv : Spec w1.heap.size L (plan i) v w') (hfar : ∀ j sj Sj si Si, j ≠ i → plan i = .alloc si Si → plan j = .alloc sj Sj → L j = true → f (dst j) ≠ v) : RInv w1 plan dst (updL L i) (updF f (some (dst i)) v) w' := by
  have hst : ∀ j st S, plan j = .alloc st S → updL L i st = L st := fun j st S hj => by
    have := hp.sts j st S hj
    exact updL_ne L (fun e => hk (by rw [← e]; exact this))
  have hspec : ∀ (p : Pl) (u : Value), (∀ st S, p = .alloc st S → updL L i st = L st) → Spec w1.heap.size L p u w' → Spec w1.heap.size (updL L i) p u w' := fun p u he hs => by
    cases p with
    | load u => exact hs
    | call S => exact hs
    | alloc st S => show BO _ _ _ _ _; rw [he st S rfl]; exact hs
    | store => trivial
  have hne : ∀ j, j ≠ i → plan j ≠ .store → dst j ≠ dst i := fun j hj hs => hp.inj j i (Nat.lt_of_not_le fun hn => hs (hp.out j hn)) hi hj
  refine ⟨h.bel.trans (hb.mono h.bel.size), fun j hj => ?_, fun j k sj sk Sj Sk hjk pj pk hj hk' => ?_, fun j st S pj hs => ?_⟩
  · by_cases e : j = i
    · subst e; rw [updF_self]; exact hspec _ _ (fun st S hs => hst j st S hs) hv
    · rw [updL_ne L e] at hj
      by_cases hs : plan j = .store
      · rw [hs]; trivial
      · rw [updF_ne f v (hne j e hs)]
        exact hspec _ _ (fun st S hs => hst j st S hs) ((h.spec j hj).up hb)
  · by_cases ej : j = i
    · subst ej
      have ek : k ≠ j := fun e => hjk e.symm
      rw [updL_ne L ek] at hk'
      rw [updF_self, updF_ne f v (hne k ek (by rw [pk]; simp))]
      exact fun e => hfar k sk Sk sj Sj ek pj pk hk' e.symm
    · rw [updL_ne L ej] at hj
      rw [updF_ne f v (hne j ej (by rw [pj]; simp))]
      by_cases ek : k = i
      · subst ek; rw [updF_self]; exact hfar j sj Sj sk Sk ej pk pj hj
      · rw [updL_ne L ek] at hk'
        rw [updF_ne f v (hne k ek (by rw [pk]; simp))]
        exact h.apart j k sj sk Sj Sk hjk pj pk hj hk'
  · rw [hst j st S pj] at hs
    exact updL_mono L (h.late j st S pj hs)
theorem RInv.alloc (h : RInv w1 plan dst L f w) (hp : PlOK n plan dst) (hi : i < n) {st : Nat} {S : NS} (pi : plan i = .alloc st S) (hL : L i = false) :
    RInv w1 plan dst (updL L i) (updF f (some (dst i)) (.pointer (some ⟨w.heap.size, 0, none⟩))) (w.alloc (.cells #[.slice none 0 0, .slice none 0 0] 24)) := by
  refine h.step hp hi (fun e => by rw [pi] at e; cases e) ((Below.refl _ _).alloc (Nat.le_refl _) _) ?_ fun j sj Sj si Si hj _ pj hLj => ?_
  · rw [pi]
    show BO _ (L st) S _ _
    have : L st = false := by
      cases hs : L st
      · rfl
      · rw [h.late i st S pi hs] at hL; exact hL
    rw [this]
    exact ⟨_, rfl, h.bel.size, bat_new S w⟩
  · have := h.spec j hLj
    rw [pj] at this
    obtain ⟨b, e, _, hb⟩ := this
    rw [e]; intro e2
    injection e2 with e2; injection e2 with e2; injection e2 with e2
    have := hb.1; omega
/-- a store of the set that operation c gave into the box of operation k -/
theorem RInv.store (h : RInv w1 plan dst L f w) (hp : PlOK n plan dst) (pi : plan i = .store) {k c : Nat} {S : NS} (pk : plan k = .alloc i S) (pc : plan c = .call S) (hk : L k = true) (hc : L c = true) :
    ∃ b X1 x1 X2 x2 Y1 m1 y1 Y2 m2 y2, f (dst k) = .pointer (some ⟨b, 0, none⟩) ∧ f (dst c) = nv X1 S.1.length x1 X2 S.2.length x2 ∧ w.cell? ⟨b, 0, none⟩ = some (.slice Y1 m1 y1) ∧ w.cell? ⟨b, 1, none⟩ = some (.slice Y2 m2 y2) ∧ w.frozen? ⟨b, 0, none⟩ = false ∧ w.frozen? ⟨b, 1, none⟩ = false ∧
      RInv w1 plan dst (updL L i) f (stW w b X1 S.1.length x1 X2 S.2.length x2) := by
  have hB := h.spec k hk
  rw [pk] at hB
  obtain ⟨b, eb, hbase, hlt, f0, f1, Y1, m1, y1, Y2, m2, y2, c0, c1, _⟩ := hB
  have hC := h.spec c hc
  rw [pc] at hC
  obtain ⟨X1, x1, X2, x2, ec, hn⟩ := hC
  obtain ⟨d0, d1, hup⟩ := st_cell c0 c1 X1 S.1.length x1 X2 S.2.length x2
  refine ⟨b, X1, x1, X2, x2, Y1, m1, y1, Y2, m2, y2, eb, ec, c0, c1, f0, f1, (h.bel.setCell (p := ⟨b, 0, none⟩) hbase _).setCell (p := ⟨b, 1, none⟩) hbase _, fun j hj => ?_, fun j l sj sl Sj Sl hjl pj pl hj hl => ?_, fun j st S' pj hs => ?_⟩
  · by_cases e : j = i
    · subst e; rw [pi]; trivial
    · rw [updL_ne L e] at hj
      have hs := h.spec j hj
      cases hpj : plan j with
      | load u => rw [hpj] at hs; exact hs
      | call T => rw [hpj] at hs; obtain ⟨Z1, z1, Z2, z2, e1, hz⟩ := hs; exact ⟨Z1, z1, Z2, z2, e1, hup hz⟩
      | store => trivial
      | alloc st T =>
        by_cases hjk : j = k
        · subst hjk
          rw [pk] at hpj
          injection hpj with e1 e2
          subst e1 e2
          refine ⟨b, eb, hbase, by rw [st_size]; exact hlt, by simpa using f0, by simpa using f1, X1, _, x1, X2, _, x2, d0, d1, fun _ => ⟨rfl, rfl, hup hn⟩⟩
        · have hne : st ≠ i := fun e => hjk (hp.one j k i T S (by rw [← e]; exact hpj) pk)
          rw [hpj] at hs
          obtain ⟨b', eb', hb', hat⟩ := hs
          have hbb : b ≠ b' := fun e => h.apart j k st i T S hjk hpj pk hj hk (by rw [eb, eb', e])
          refine ⟨b', eb', hb', ?_⟩
          rw [updL_ne L hne]
          exact hat.far hbb c0 c1 _ _ _ _ _ _
  · have nj : j ≠ i := fun e => by rw [e, pi] at pj; cases pj
    have nl : l ≠ i := fun e => by rw [e, pi] at pl; cases pl
    rw [updL_ne L nj] at hj
    rw [updL_ne L nl] at hl
    exact h.apart j l sj sl Sj Sl hjl pj pl hj hl
  · by_cases e : st = i
    · have := hp.one j k st S' S pj (by rw [e]; exact pk)
      rw [this]; exact updL_mono L hk
    · rw [updL_ne L e] at hs
      exact updL_mono L (h.late j st S' pj hs)
/-- the start -/
theorem RInv.start (w1 : World) (plan : Nat → Pl) (dst : Nat → Nat) (f : Nat → Value) (h : Below w1.heap.size w1 w) : RInv w1 plan dst (fun _ => false) f w :=
  ⟨h, fun i h => absurd h (by simp), fun i j si sj Si Sj _ _ _ h => absurd h (by simp), fun j st S _ h => absurd h (by simp)⟩
end
end Go.Proofs.Yteekccjfokoglaa
