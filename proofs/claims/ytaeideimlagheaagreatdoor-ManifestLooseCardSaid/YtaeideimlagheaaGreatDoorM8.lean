/-
  PLAIN: the loose texts of the law of Loose: their lines, their words, their length.
-/
import Derived.Test.YtaeideimlagheaaGreatDoorLR
namespace Go.Proofs.YtaeideimlagheaaGreatDoor
open Go
set_option linter.unusedSimpArgs false
set_option linter.unnecessarySimpa false
set_option linter.unusedVariables false
/-- each blank three times, or once -/
def dblL (w : Bool) (l : List UInt8) : List UInt8 := l.flatMap fun b => if w = true ∧ b = 32 then [32, 32, 32] else [b]
theorem dblL_app (w : Bool) (a b : List UInt8) : dblL w (a ++ b) = dblL w a ++ dblL w b := by simp [dblL]
theorem dblL_none (w : Bool) : ∀ {l : List UInt8}, (32 : UInt8) ∉ l → dblL w l = l
  | [], _ => rfl
  | b :: t, h => by
    have hb : ¬ b = 32 := fun e => h (by simp [e])
    have := dblL_none w (l := t) (fun m => h (by simp [m]))
    unfold dblL at this ⊢
    rw [List.flatMap_cons, if_neg (by simp [hb]), this]; rfl
theorem dblL_blank (w : Bool) : dblL w [32] = if w = true then [32, 32, 32] else [32] := by cases w <;> rfl
theorem dblL_len (w : Bool) : ∀ (l : List UInt8), (dblL w l).length ≤ 3 * l.length
  | [] => by simp [dblL]
  | b :: t => by
    have := dblL_len w t
    have e : dblL w (b :: t) = (if w = true ∧ b = 32 then [32, 32, 32] else [b]) ++ dblL w t := by simp [dblL]
    rw [e, List.length_append, List.length_cons]
    split <;> simp <;> omega
def wideN (v : Nat) : Bool := decide (v % 2 = 1)
def padN (v : Nat) : Bool := decide (1 < v % 4)
def noteN (v : Nat) (t : List UInt8) : Option (List UInt8) := if 3 < v % 8 then some t else none
/-- what the law's loose makes of a line -/
def padL (v : Nat) (a : List UInt8) : List UInt8 := if 1 < v % 4 then [32] ++ a ++ [32] else a
def noteL (v : Nat) (note a : List UInt8) : List UInt8 := if 3 < v % 8 then a ++ [47, 47] ++ note else a
def looseL (s note : List UInt8) (v : Nat) : List UInt8 := noteL v note (padL v (dblL (wideN v) s))
theorem loose_line {k : List UInt8} {x : Md} (hk : KW k) (h : okM x) (note : List UInt8) (v : Nat) : looseL (lineF k x false false none) note v = lineF k x (wideN v) (padN v) (noteN v note) := by
  have hp : (32 : UInt8) ∉ x.1.data.toList := path_not h.1 (by decide) (by decide)
  have hv : (32 : UInt8) ∉ verT x := ver_not h.2 (by decide)
  have e : dblL (wideN v) (lineF k x false false none) = lineF k x (wideN v) false none := by
    have e0 : lineF k x false false none = k ++ ([32] ++ (x.1.data.toList ++ ([32] ++ verT x))) := by simp [lineF]
    rw [e0, dblL_app, dblL_app, dblL_app, dblL_app, dblL_none _ hk.b, dblL_none _ hp, dblL_none _ hv, dblL_blank]
    simp [lineF]
  unfold looseL
  rw [e]
  unfold noteL padL noteN padN
  by_cases h1 : 1 < v % 4 <;> by_cases h2 : 3 < v % 8 <;> simp [h1, h2, lineF]
def vN (n i : Nat) : Nat := (n + i) % 256
def lnF (k : List UInt8) (x : Md) (note : List UInt8) (v : Nat) : List UInt8 := lineF k x (wideN v) (padN v) (noteN v note)
/-- the lines after j rounds -/
def lnsL (x : Md) (S : List Md) (note : List UInt8) (n : Nat) : Nat → List (List UInt8)
  | 0 => [[47, 47] ++ note, [], lnF kwM x note n]
  | j + 1 => lnsL x S note n j ++ [[32, 32], lnF kwR (S.getD (S.length - j - 1) x) note (vN n (S.length - j))]
theorem lnF_words {k : List UInt8} {x : Md} (hk : KW k) (h : okM x) (note : List UInt8) (v : Nat) : wordsC (lnF k x note v) = wordsM k x := lineF_words hk h _ _ _
theorem words_note (note : List UInt8) : wordsC ([47, 47] ++ note) = [] := by
  unfold wordsC
  have := bare_note (l := []) (r := note) rfl
  rw [show [47, 47] ++ note = [] ++ 47 :: 47 :: note from rfl, this]; rfl
theorem words_empty : wordsC [] = [] := rfl
theorem words_two : wordsC [32, 32] = [] := by kernel_rfl
theorem lns_words {x : Md} {S : List Md} (hx : okM x) (hS : ∀ y ∈ S, okM y) (note : List UInt8) (n : Nat) : ∀ j, j ≤ S.length → ((lnsL x S note n j).map wordsC).filter (fun z => !z.isEmpty) = wordsM kwM x :: ((S.drop (S.length - j)).reverse).map (wordsM kwR)
  | 0, _ => by
    unfold lnsL
    simp only [List.map_cons, List.map_nil, words_note, words_empty, lnF_words kwM_ok hx]
    rw [Nat.sub_zero, List.drop_length]
    rfl
  | j + 1, h => by
    have hl : S.length - j - 1 < S.length := by omega
    have hg : S.getD (S.length - j - 1) x = S[S.length - j - 1] := by simp [List.getD, hl]
    have hd : S.drop (S.length - (j + 1)) = S[S.length - j - 1] :: S.drop (S.length - j) := by
      rw [show S.length - (j + 1) = S.length - j - 1 by omega, List.drop_eq_getElem_cons hl, show S.length - j - 1 + 1 = S.length - j by omega]
    rw [lnsL, List.map_append, List.filter_append, lns_words hx hS note n j (by omega), hg, hd]
    simp only [List.map_cons, List.map_nil, words_two, lnF_words kwR_ok (hS _ (List.getElem_mem hl))]
    rw [List.reverse_cons, List.map_append]
    rfl
theorem noteN_no {v : Nat} {t : List UInt8} (h : (10 : UInt8) ∉ t) : ∀ u, noteN v t = some u → (10 : UInt8) ∉ u := by
  intro u hu
  unfold noteN at hu
  split at hu
  · cases hu; exact h
  · cases hu
theorem getD_ok {x : Md} {S : List Md} (hx : okM x) (hS : ∀ y ∈ S, okM y) (i : Nat) : okM (S.getD i x) := by
  by_cases h : i < S.length
  · have : S.getD i x = S[i] := by simp [List.getD, h]
    rw [this]; exact hS _ (List.getElem_mem h)
  · have : S.getD i x = x := by simp [List.getD, h]
    rw [this]; exact hx
theorem lns_no10 {x : Md} {S : List Md} (hx : okM x) (hS : ∀ y ∈ S, okM y) {note : List UInt8} (hn : (10 : UInt8) ∉ note) (n : Nat) : ∀ j, ∀ z ∈ lnsL x S note n j, (10 : UInt8) ∉ z
  | 0, z, hz => by
    unfold lnsL at hz
    simp only [List.mem_cons, List.not_mem_nil, or_false] at hz
    rcases hz with rfl | rfl | rfl
    · simp [hn]
    · simp
    · exact lineF_no10 kwM_ok hx _ _ _ (noteN_no hn)
  | j + 1, z, hz => by
    rw [lnsL, List.mem_append] at hz
    rcases hz with hz | hz
    · exact lns_no10 hx hS hn n j z hz
    · simp only [List.mem_cons, List.not_mem_nil, or_false] at hz
      rcases hz with rfl | rfl
      · decide
      · exact lineF_no10 kwR_ok (getD_ok hx hS _) _ _ _ (noteN_no hn)
theorem lns_last {x : Md} {S : List Md} (note : List UInt8) (n : Nat) : ∀ j, ∀ z, (lnsL x S note n j).getLast? = some z → z ≠ []
  | 0, z, hz => by
    unfold lnsL at hz
    simp only [List.getLast?_cons_cons, List.getLast?_singleton, Option.some.injEq] at hz
    subst hz; exact lineF_ne kwM_ok _ _ _
  | j + 1, z, hz => by
    rw [lnsL, List.getLast?_append] at hz
    simp only [List.getLast?_cons_cons, List.getLast?_singleton, Option.some_or, Option.some.injEq] at hz
    subst hz; exact lineF_ne kwR_ok _ _ _
theorem lnF_len {k : List UInt8} {x : Md} {note : List UInt8} {v : Nat} (hk : k.length ≤ 7) (hp : x.1.size ≤ 60) (hx : okM x) (hn : note.length ≤ 100) : (lnF k x note v).length ≤ 200 := by
  have h1 : x.1.data.toList.length = x.1.size := by simp
  have h2 : (verT x).length ≤ 15 := by
    have := (txt_sizes hx.2).2
    have e : (verT x).length = (txtS x.2.1 x.2.2.1 x.2.2.2).size := by simp [verT]
    omega
  unfold lnF lineF noteN
  cases wideN v <;> cases padN v <;> by_cases h : 3 < v % 8 <;> simp [h] <;> (have h1' := h1; simp at h1 h2; omega)
theorem catL_len (L : List (List UInt8)) : (catL L).length = (L.map fun z => z.length + 1).sum := by
  unfold catL
  induction L with
  | nil => rfl
  | cons a t ih => rw [List.flatMap_cons, List.length_append, List.map_cons, List.sum_cons, ih]; simp
theorem catL_app (L M : List (List UInt8)) : catL (L ++ M) = catL L ++ catL M := by simp [catL]
theorem lns_len {x : Md} {S : List Md} (hx : okM x) (hS : ∀ y ∈ S, okM y) (hxp : x.1.size ≤ 60) (hSp : ∀ y ∈ S, y.1.size ≤ 60) {note : List UInt8} (hn : note.length ≤ 100) (n : Nat) : ∀ j, (catL (lnsL x S note n j)).length ≤ 400 + j * 300
  | 0 => by
    have := lnF_len (k := kwM) (v := n) (note := note) (by decide) hxp hx hn
    rw [catL_len]
    unfold lnsL
    simp; omega
  | j + 1 => by
    have ih := lns_len hx hS hxp hSp hn n j
    have hp : (S.getD (S.length - j - 1) x).1.size ≤ 60 := by
      by_cases h : S.length - j - 1 < S.length
      · have e : S.getD (S.length - j - 1) x = S[S.length - j - 1] := by simp [List.getD, h]
        rw [e]; exact hSp _ (List.getElem_mem h)
      · have e : S.getD (S.length - j - 1) x = x := by
          unfold List.getD
          rw [List.getElem?_eq_none (by omega)]; rfl
        rw [e]; exact hxp
    have := lnF_len (k := kwR) (v := vN n (S.length - j)) (note := note) (by decide) hp (getD_ok hx hS _) hn
    rw [lnsL, catL_app, List.length_append, catL_len [_, _]]
    generalize lnF kwR (S.getD (S.length - j - 1) x) note (vN n (S.length - j)) = z at *
    simp; omega
/-- a loose text is read as the text itself -/
theorem parse_loose {x : Md} {l : List Md} (hc : chkM x l = 0) (note : List UInt8) (hn : (10 : UInt8) ∉ note) (hn2 : note.length ≤ 100) (n : Nat) (s : List UInt8)
    (hs : s = catL (lnsL x (sortM l) note n (sortM l).length) ∨ s = (catL (lnsL x (sortM l) note n (sortM l).length)).dropLast) : parseL verV s = .inr (x, sortM l) := by
  obtain ⟨hx, hl⟩ := chk_good hc
  have hS : ∀ y ∈ sortM l, okM y := fun y hy => hl y ((sortM_perm l).mem_iff.1 hy)
  have hp := chk_path hc
  have hlen := lns_len hx hS (hp x (by simp)) (fun y hy => hp y (by simp [(sortM_perm l).mem_iff.1 hy])) hn2 n (sortM l).length
  have hfew := (chk_few hc).1
  have hw := lns_words hx hS note n (sortM l).length (Nat.le_refl _)
  rw [Nat.sub_self, List.drop_zero] at hw
  have hperm : (sortM l).reverse.Perm l := (List.reverse_perm _).trans (sortM_perm l)
  have hsl := sortM_length l
  have hgo : ∀ s : List UInt8, s.length ≤ 65536 → linesL s = lnsL x (sortM l) note n (sortM l).length → parseL verV s = .inr (x, sortM l) := by
    intro s h1 h2
    exact parse_words hperm hc h1 hx (fun y hy => hS y (List.mem_reverse.1 hy)) (by rw [h2]; exact hw)
  rcases hs with rfl | rfl
  · exact hgo _ (by omega) (lines_catL (lns_no10 hx hS hn n _))
  · exact hgo _ (by rw [List.length_dropLast]; omega) (lines_catL_cut (lns_no10 hx hS hn n _) (lns_last note n _))
end Go.Proofs.YtaeideimlagheaaGreatDoor
