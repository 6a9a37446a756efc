/-
  The specification's Lines: the lines of a text. At most 2000000 bytes. No other condition.
-/
import Derived.Test.YtaeideimlagheaaGreatDoorR2
import Derived.Test.YtaeideimlagheaaGreatDoorC2
namespace Go.Proofs.YtaeideimlagheaaGreatDoor
open Go.RowKit Go.Sort Go.Lib Go.Shelf Go.Proofs
set_option linter.unusedSimpArgs false
set_option linter.unnecessarySimpa false
set_option linter.unusedVariables false
def LinesIs (s : ByteArray) (w : World) (e : Ending) (w' : World) : Prop :=
  ∃ L : List ByteArray, L.map (·.data.toList) = linesL s.data.toList ∧ L.length ≤ s.size + 1 ∧ GivesS L w e w'
theorem last_split {L : List ByteArray} {s : List UInt8} (h : L.map (·.data.toList) = splitL 10 s) : ∃ M z, L = M ++ [z] ∧
    linesL s = if z.data.toList = [] then M.map (·.data.toList) else (M ++ [z]).map (·.data.toList) := by
  have hne : L ≠ [] := by
    rintro rfl
    exact splitL_ne 10 s h.symm
  refine ⟨L.dropLast, L.getLast hne, (List.dropLast_concat_getLast hne).symm, ?_⟩
  rw [List.dropLast_concat_getLast hne]
  unfold linesL dropE
  rw [← h, List.getLast?_map, List.getLast?_eq_some_getLast hne]
  simp only [Option.map_some, Option.some.injEq, List.map_dropLast]
set_option maxRecDepth 100000 in
set_option maxHeartbeats 4000000 in
theorem rlines_any (s : ByteArray) (hs : s.size ≤ 2000000) (w : World) : Calls Tryz.prog 24 #[.string s] w (LinesIs s w) := by
  have HP : Hid (∀ (L : List ByteArray) (e : Ending) (w' : World), L.map (·.data.toList) = linesL s.data.toList → L.length ≤ s.size + 1 → GivesS L w e w' → LinesIs s w e w') := Lib.hid (fun L e w' h h' hG => ⟨L, h, h', hG⟩)
  have K := Lib.hid (rsplit_cap 10 10 rfl s hs w)
  have HS := Lib.hid hs
  clear hs
  go_enter Tryz.func24, Tryz.ntmps24
  go_wp2_with fail
  refine K.out.mono ?_
  rintro e w1 ⟨L, hL, hlen, A, c, rfl, hR, hpl, hb, hc1, hc2⟩
  obtain ⟨M, z, rfl, hz⟩ := last_split hL
  obtain ⟨b, o, rfl, hbl, hcell⟩ := hR.at_ M.length (by simp)
  have hcell : w1.cell? ⟨b, o + M.length, none⟩ = some (.string z) := by simpa using hcell
  have hTK := hR.take M.length
  rw [List.take_left' rfl] at hTK
  have HTK := Lib.hid hTK
  have HRR := Lib.hid hR
  have HPL := Lib.hid hpl
  have HB := Lib.hid hb
  have HLEN := Lib.hid hlen
  have hml : (M ++ [z]).length = M.length + 1 := by simp
  have HZ := Lib.hid hz
  have hM2 : M.length ≤ 2000001 := by have := HS.out; omega
  have t0 : IntKind.i64.wrap (((M.length + 1 : Nat) : Int) - 1) = (M.length : Int) := by rw [show ((M.length + 1 : Nat) : Int) - 1 = (M.length : Int) by omega]; exact IntWalk.i64_in _ (by omega)
  have t1 : IntKind.i64.wrap ((M.length : Int) + 1 - 1) = (M.length : Int) := by rw [show (M.length : Int) + 1 - 1 = (M.length : Int) by omega]; exact IntWalk.i64_in _ (by omega)
  have t2 : (M.length : Int) < ((M.length + 1 : Nat) : Int) := by omega
  have t3 : (M.length : Int) ≤ (c : Int) := by omega
  by_cases he : z.data.toList = []
  · have hq : (z.toList == (⟨#[]⟩ : ByteArray).toList) = true := by rw [Go.ByteArray.toList_eq, Go.ByteArray.toList_eq, he]; rfl
    have hq2 : z.toList.isEmpty = true := by rw [Go.ByteArray.toList_eq, he]; rfl
    have HG := Lib.hid (HP.out M (.returned (.slice (some ⟨b, o, none⟩) M.length c)) w1 (by rw [HZ.out, if_pos he]) (by omega) ⟨_, c, rfl, HTK.out, HPL.out, HB.out⟩)
    rw [hml] at *
    clear hR hL hz hTK hpl hb hlen HP K he hml hc1
    go_wp2_with fail
    go_ret
    exact HG.out
  · have hq : (z.toList == (⟨#[]⟩ : ByteArray).toList) = false := by rw [Go.ByteArray.toList_eq, Go.ByteArray.toList_eq]; simpa using he
    have hq2 : z.toList.isEmpty = false := by rw [Go.ByteArray.toList_eq]; simpa using he
    have HG := Lib.hid (HP.out (M ++ [z]) (.returned (.slice (some ⟨b, o, none⟩) (M ++ [z]).length c)) w1 (by rw [HZ.out, if_neg he]) (by omega) ⟨_, c, rfl, HRR.out, HPL.out, HB.out⟩)
    rw [hml] at *
    clear hR hL hz hTK hpl hb hlen HP K he hml hc1
    go_wp2_with fail
    go_ret
    exact HG.out
end Go.Proofs.YtaeideimlagheaaGreatDoor
