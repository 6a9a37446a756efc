/-
  Reading versions: one function for the program and the specification. Conditions: the table of powers of ten, internal/bytealg.MaxLen holds some number, the two error variables of strconv hold interface values (the program's alone).
-/
import Derived.Test.YtmmghdicjpfdoaaGreatDoorVb
namespace Go.Proofs.YtmmghdicjpfdoaaGreatDoor
open Go.RowKit
set_option linter.unusedSimpArgs false
set_option linter.unnecessarySimpa false
set_option linter.unusedVariables false
/-- the version that a text denotes -/
def verV (l : List UInt8) : Option (Int × Int × Int) :=
  if 6 ≤ l.length ∧ l.length ≤ 15 ∧ l.head? = some 118 then
    match rd (l.drop 1) 0 0 0 0 with
    | some (x, y, z) => if (txt x y z).data.toList = l then some ((x : Int), (y : Int), (z : Int)) else none
    | none => none
  else none
theorem verV_some {s : ByteArray} {a b c : Int} (h : verV s.data.toList = some (a, b, c)) : okV a b c = true ∧ txtS a b c = s := by
  unfold verV at h
  split at h
  · rename_i h1
    split at h
    · rename_i x y z h2
      split at h
      · rename_i h3
        simp only [Option.some.injEq, Prod.mk.injEq] at h
        obtain ⟨rfl, rfl, rfl⟩ := h
        have he : txt x y z = s := ByteArray.ext (Array.ext' h3)
        have ho : okV x y z = true := by
          cases ho : okV (x : Int) y z with
          | true => rfl
          | false =>
            rw [txt, if_neg (by rw [ho]; simp)] at he
            rw [← he] at h1
            exact absurd h1.1 (by decide)
        refine ⟨ho, ?_⟩
        rw [txt, if_pos ho] at he
        exact he
      · cases h
    · cases h
  · cases h
theorem verV_txt {a b c : Int} (h : okV a b c = true) : verV (txtS a b c).data.toList = some (a, b, c) := by
  obtain ⟨h5, h15⟩ := txt_sizes h
  have hl := txt_list h
  obtain ⟨⟨a0, a1⟩, ⟨b0, b1⟩, ⟨c0, c1⟩⟩ := okV_parts h
  have hs : (txtS a b c).data.toList.length = (txtS a b c).size := by simp
  unfold verV
  rw [if_pos ⟨by omega, by omega, by rw [hl]; rfl⟩]
  have e1 : ((a.toNat : Nat) : Int) = a := by omega
  have e2 : ((b.toNat : Nat) : Int) = b := by omega
  have e3 : ((c.toNat : Nat) : Int) = c := by omega
  have hr : rd ((txtS a b c).data.toList.drop 1) 0 0 0 0 = some (a.toNat, b.toNat, c.toNat) := by
    rw [hl, List.drop_succ_cons, List.drop_zero, rd_text]
  rw [hr]
  simp only [e1, e2, e3]
  rw [if_pos (by rw [txt, if_pos h])]
theorem verV_none {s : ByteArray} (h : verV s.data.toList = none) (hq : s ≠ ⟨#[63]⟩) : ∀ a b c, txt a b c ≠ s := by
  intro a b c he
  cases ho : okV a b c with
  | true =>
    rw [txt, if_pos ho] at he
    rw [← he, verV_txt ho] at h; cases h
  | false =>
    rw [txt, if_neg (by rw [ho]; simp)] at he
    exact hq he.symm
def verR (o : Option (Int × Int × Int)) : Value := match o with
  | some (a, b, c) => .tuple #[vv a b c, .int .i64 0]
  | none => .tuple #[vv 0 0 0, .int .i64 8]
theorem vparse_any (s : ByteArray) (hs : s.size ≤ 100000) (w : World) (hT : P10 w) (hM : Mx w) (hE : Er w) :
    Calls Tryz.prog 71 #[.string s] w fun e w' => e = .returned (verR (verV s.data.toList)) ∧ Below w.heap.size w w' := by
  cases h : verV s.data.toList with
  | some v =>
    obtain ⟨a, b, c⟩ := v
    obtain ⟨ho, rfl⟩ := verV_some h
    exact parse_txt a b c ho w hT hM
  | none =>
    by_cases hq : s = ⟨#[63]⟩
    · subst hq; exact parse_q w hM
    · exact parse_no s hs (verV_none h hq) w hT hM hE
theorem rvparse_any (s : ByteArray) (w : World) :
    Calls Tryz.prog 72 #[.string s] w fun e w' => e = .returned (verR (verV s.data.toList)) ∧ Below w.heap.size w w' := by
  cases h : verV s.data.toList with
  | some v =>
    obtain ⟨a, b, c⟩ := v
    obtain ⟨ho, rfl⟩ := verV_some h
    exact rparse_txt a b c ho w
  | none =>
    by_cases hq : s = ⟨#[63]⟩
    · subst hq; exact rparse_q w
    · exact rparse_no s (verV_none h hq) w
end Go.Proofs.YtmmghdicjpfdoaaGreatDoor
