/-
  What the rows' list gives: the two error variables of strconv hold interface values. No condition.
-/
import Derived.Test.YtelchjgpfpccnaaDoorFT
import Derived.Test.YtelchjgpfpccnaaDoorQ1
import Derived.ChangeMaps5
import Derived.OpenShut
namespace Go.Proofs.YtelchjgpfpccnaaDoor
open Go.ChangeShapes Go.WideShapes Go.ChangeAt Go.RowKit
set_option linter.unusedSimpArgs false
set_option linter.unusedVariables false
theorem gErrR : Tryd.prog.globalNamed "strconv.ErrRange" = some 2 := by kernel_rfl
theorem gErrS : Tryd.prog.globalNamed "strconv.ErrSyntax" = some 1 := by kernel_rfl
theorem gErrRT : (Tryd.prog.globals[2]?).map (·.type) = some 54 := by kernel_rfl
theorem gErrST : (Tryd.prog.globals[1]?).map (·.type) = some 54 := by kernel_rfl
theorem keep_err (n : String) (x : DataW Unit) (l : List (String × DataW Unit)) (a b c d e f g : DataW Unit)
    (h : l = [("math/bits.deBruijn32tab", a), ("math/bits.deBruijn64tab", b), ("internal/strconv.uint64pow10", c), ("unicode/utf8.acceptRanges", d), ("strconv.ErrRange", e), ("strconv.ErrSyntax", f), ("unicode/utf8.first", g)])
    (hx : (n = "strconv.ErrRange" ∧ x = e) ∨ (n = "strconv.ErrSyntax" ∧ x = f)) :
    l.filter (fun x => x.1 == n) = [(n, x)] := by
  subst h
  rcases hx with ⟨rfl, rfl⟩ | ⟨rfl, rfl⟩ <;> simp
theorem iface_cells {H : Type} {enc : TypeId × Value → H} {P : Program} {w : World} {b f : Nat} {sp : Nat → Bool} {held : Bool} {t : TypeId} {cs : List Value} {ms : Array (String × TypeId)} {r : DataW H × List MemPlace} (hi : P.underlying t = some (.interface ms))
    (h : DataW.trod enc P w b sp held f t cs = some r) : ∃ x, cs = [x] ∧ IsErr x := by
  cases f with
  | zero => simp [DataW.trod] at h
  | succ f =>
    unfold DataW.trod at h
    rw [hi] at h
    rcases cs with _ | ⟨x, _ | ⟨y, l⟩⟩
    · simp at h
    · refine ⟨x, rfl, ?_⟩
      unfold IsErr
      cases x <;> simp at h ⊢
    · cases x <;> simp at h
theorem iface_of_head {W : World} {n : String} {d : DataW Unit} {g : Nat} (hg : Tryd.prog.globalNamed n = some g) (hty : (Tryd.prog.globals[g]?).map (·.type) = some 54)
    (h : laidMet Tryd.prog [(n, d)] W) : g < W.heap.size ∧ ∃ v, W.cell? ⟨g, 0, none⟩ = some v ∧ IsErr v := by
  obtain ⟨ps, ⟨g', t', cs, fuel, p, q, hg', ht', hvar, hd, _, _⟩, _⟩ := h
  obtain rfl := Option.some.inj (hg.symm.trans hg')
  obtain rfl := Option.some.inj (hty.symm.trans ht')
  obtain ⟨x, hcs, hx⟩ := iface_cells Tryd.underlying54 hd
  have hc : W.cell? ⟨g, 0, none⟩ = some x := by
    have e : cs = #[x] := by cases cs; simp_all
    subst e
    simpa using World.var?_cell hg hvar 0
  exact ⟨World.block_lt_of_cell? W _ hc, x, hc, hx⟩
theorem er_of {W : World} (h : laidMetH Tryd.prog Rows.semverParsesRow.laid W) : Er W := by
  have h1 := h.filter (fun x => x.1 == "strconv.ErrSyntax")
  have h2 := h.filter (fun x => x.1 == "strconv.ErrRange")
  rw [keep_err "strconv.ErrSyntax" _ Rows.semverParsesRow.laid _ _ _ _ _ _ _ rfl (.inr ⟨rfl, rfl⟩)] at h1
  rw [keep_err "strconv.ErrRange" _ Rows.semverParsesRow.laid _ _ _ _ _ _ _ rfl (.inl ⟨rfl, rfl⟩)] at h2
  have k1 := iface_of_head gErrS gErrST h1
  have k2 := iface_of_head gErrR gErrRT h2
  exact ⟨k2.1, k1.2, k2.2⟩
theorem p10_of' {W : World} (h : laidMetH Tryd.prog Rows.semverParsesRow.laid W) : P10 W := p10_of h
end Go.Proofs.YtelchjgpfpccnaaDoor
