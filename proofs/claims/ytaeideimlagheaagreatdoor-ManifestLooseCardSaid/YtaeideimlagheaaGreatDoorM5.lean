/-
  PLAIN: the reader reads what the writer writes: lines, words, comments, blanks, order of lines. Lists of bytes only.
-/
import Derived.Test.YtaeideimlagheaaGreatDoorVC
import Derived.Test.YtaeideimlagheaaGreatDoorT
import Derived.Test.YtaeideimlagheaaGreatDoorMn
namespace Go.Proofs.YtaeideimlagheaaGreatDoor
open Go
set_option linter.unusedSimpArgs false
set_option linter.unnecessarySimpa false
set_option linter.unusedVariables false
/-! words -/
theorem words_join (a r : List UInt8) : wordsL (a ++ 32 :: r) = wordsL a ++ wordsL r := by
  unfold wordsL; rw [splitL_join, List.filter_append]
theorem words_nil : wordsL [] = [] := rfl
theorem words_one {a : List UInt8} (h : (32 : UInt8) ∉ a) (hne : a ≠ []) : wordsL a = [a] := by
  unfold wordsL; rw [splitL_self 32 a h]
  cases a with
  | nil => exact absurd rfl hne
  | cons x t => rfl
theorem words_blank (r : List UInt8) : wordsL (32 :: r) = wordsL r := by
  have := words_join [] r
  simpa [words_nil] using this
/-- three words with blanks between and around them -/
theorem words_three {k p v : List UInt8} (hk : (32 : UInt8) ∉ k) (hp : (32 : UInt8) ∉ p) (hv : (32 : UInt8) ∉ v) (nk : k ≠ []) (np : p ≠ []) (nv : v ≠ []) :
    wordsL (k ++ 32 :: (p ++ 32 :: v)) = [k, p, v] := by
  rw [words_join, words_join, words_one hk nk, words_one hp np, words_one hv nv]; rfl
theorem words_wide {k p v : List UInt8} (hk : (32 : UInt8) ∉ k) (hp : (32 : UInt8) ∉ p) (hv : (32 : UInt8) ∉ v) (nk : k ≠ []) (np : p ≠ []) (nv : v ≠ []) :
    wordsL (k ++ 32 :: 32 :: 32 :: (p ++ 32 :: 32 :: 32 :: v)) = [k, p, v] := by
  rw [words_join, words_blank, words_blank, words_join, words_blank, words_blank, words_one hk nk, words_one hp np, words_one hv nv]; rfl
theorem words_pad {l : List UInt8} : wordsL (32 :: (l ++ [32])) = wordsL l := by
  rw [words_blank, words_join, words_nil, List.append_nil]
/-! paths and versions -/
theorem mem_split (c : UInt8) : ∀ (l : List UInt8) (b : UInt8), b ∈ l → b = c ∨ ∃ x ∈ splitL c l, b ∈ x
  | [], b, h => by cases h
  | x :: t, b, h => by
    by_cases hx : x = c
    · rw [splitL_eq hx]
      rcases List.mem_cons.1 h with rfl | h
      · exact .inl hx
      · rcases mem_split c t b h with h | ⟨y, hy, hb⟩
        · exact .inl h
        · exact .inr ⟨y, by simp [hy], hb⟩
    · rw [splitL_no hx]
      obtain ⟨u, U, hu⟩ := List.exists_cons_of_ne_nil (splitL_ne c t)
      rw [hu]
      rcases List.mem_cons.1 h with rfl | h
      · exact .inr ⟨b :: u, by simp [glue], by simp⟩
      · rcases mem_split c t b h with h | ⟨y, hy, hb⟩
        · exact .inl h
        · rw [hu] at hy
          rcases List.mem_cons.1 hy with rfl | hy
          · exact .inr ⟨x :: y, by simp [glue], by simp [hb]⟩
          · exact .inr ⟨y, by simp [glue, hy], hb⟩
theorem ns_tail : ∀ {l : List UInt8}, (∀ x ∈ (splitL 47 l).tail, x ≠ []) → ns l = true
  | [], _ => rfl
  | b :: t, h => by
    by_cases hb : b = 47
    · rw [splitL_eq hb, List.tail_cons] at h
      have h1 : ns t = true := ns_tail (fun x hx => h x (List.mem_of_mem_tail hx))
      rw [ns_cons, h1, Bool.and_true]
      cases t with
      | nil => simp
      | cons y u =>
        by_cases hy : y = 47
        · rw [splitL_eq hy] at h
          exact absurd rfl (h [] (by simp))
        · simp [hy]
    · rw [splitL_no hb] at h
      have h1 : ns t = true := ns_tail (fun x hx => h x (by
        obtain ⟨u, U, hu⟩ := List.exists_cons_of_ne_nil (splitL_ne 47 t)
        rw [hu] at hx ⊢; simpa [glue] using hx))
      rw [ns_cons, h1]; simp [hb]
theorem part_ne {x : List UInt8} (h : partB x = true) : x ≠ [] := by rintro rfl; cases h
theorem part_mem {x : List UInt8} (h : partB x = true) : ∀ b ∈ x, insB b.toNat = true := by
  cases x with
  | nil => intro b hb; cases hb
  | cons a t =>
    unfold partB at h
    rw [Bool.and_eq_true, List.all_eq_true] at h
    exact h.2
theorem path_parts {p : List UInt8} (h : pathB p = true) : ∀ x ∈ splitL 47 p, partB x = true := by
  unfold pathB at h
  rw [Bool.and_eq_true, List.all_eq_true] at h
  exact h.2
theorem path_ns {p : List UInt8} (h : pathB p = true) : ns p = true :=
  ns_tail fun x hx => part_ne (path_parts h x (List.mem_of_mem_tail hx))
theorem path_ne {p : List UInt8} (h : pathB p = true) : p ≠ [] := by rintro rfl; cases h
theorem path_bytes {p : List UInt8} (h : pathB p = true) : ∀ b ∈ p, insB b.toNat = true ∨ b = 47 := fun b hb => by
  rcases mem_split 47 p b hb with h1 | ⟨x, hx, hm⟩
  · exact .inr h1
  · exact .inl (part_mem (path_parts h x hx) b hm)
theorem path_not {p : List UInt8} (h : pathB p = true) {c : UInt8} (hc : insB c.toNat = false) (h47 : c ≠ 47) : c ∉ p := fun hm => by
  rcases path_bytes h c hm with h1 | h1
  · rw [hc] at h1; cases h1
  · exact h47 h1
theorem ver_bytes {a b c : Int} (h : okV a b c = true) : ∀ x ∈ (txtS a b c).data.toList, x.toNat = 118 ∨ x.toNat = 46 ∨ (48 ≤ x.toNat ∧ x.toNat ≤ 57) := by
  rw [txt_list h]
  intro x hx
  rw [List.mem_cons, List.mem_append, List.mem_cons, List.mem_append, List.mem_cons] at hx
  rcases hx with rfl | hx | rfl | hx | rfl | hx
  · exact .inl rfl
  · exact .inr (.inr (ZSemverMath.dec_dig _ x hx))
  · exact .inr (.inl rfl)
  · exact .inr (.inr (ZSemverMath.dec_dig _ x hx))
  · exact .inr (.inl rfl)
  · exact .inr (.inr (ZSemverMath.dec_dig _ x hx))
theorem ver_not {a b c : Int} (h : okV a b c = true) {x : UInt8} (hx : x.toNat < 46 ∨ x.toNat = 47) : x ∉ (txtS a b c).data.toList := fun hm => by
  have := ver_bytes h x hm; omega
theorem ver_ne {a b c : Int} (h : okV a b c = true) : (txtS a b c).data.toList ≠ [] := by rw [txt_list h]; simp
/-- a module that a line can hold -/
def okM (x : Md) : Prop := pathB x.1.data.toList = true ∧ okV x.2.1 x.2.2.1 x.2.2.2 = true
abbrev verT (x : Md) : List UInt8 := (txtS x.2.1 x.2.2.1 x.2.2.2).data.toList
/-- the words of a module's line -/
def wordsM (k : List UInt8) (x : Md) : List (List UInt8) := [k, x.1.data.toList, verT x]
theorem read_words {k : List UInt8} {x : Md} (h : okM x) : readL verV k (wordsM k x) = some x := by
  show (if k = k ∧ pathB x.1.data.toList = true then (verV (verT x)).map fun y => (bA x.1.data.toList, y) else none) = some x
  rw [if_pos ⟨rfl, h.1⟩, verV_txt h.2]
  rfl
/-- a word that begins a line -/
structure KW (k : List UInt8) : Prop where
  ne : k ≠ []
  b : (32 : UInt8) ∉ k
  s : (47 : UInt8) ∉ k
  n : (10 : UInt8) ∉ k
theorem kwM_ok : KW kwM := ⟨by decide, by decide, by decide, by decide⟩
theorem kwR_ok : KW kwR := ⟨by decide, by decide, by decide, by decide⟩
/-- the forms of a module's line: with blanks, wide or not, padded or not, with a note or without -/
def lineF (k : List UInt8) (x : Md) (wide pad : Bool) (note : Option (List UInt8)) : List UInt8 :=
  let sp : List UInt8 := if wide then [32, 32, 32] else [32]
  let l := k ++ sp ++ x.1.data.toList ++ sp ++ verT x
  let l := if pad then [32] ++ l ++ [32] else l
  match note with
  | none => l
  | some t => l ++ [47, 47] ++ t
theorem lineF_bare {k : List UInt8} {x : Md} (hk : KW k) (h : okM x) (wide pad : Bool) :
    ns (lineF k x wide pad none) = true ∧ ns (lineF k x wide pad none ++ [47]) = true := by
  obtain ⟨A, C, hA, hC, hne, e⟩ : ∃ A C : List UInt8, (47 : UInt8) ∉ A ∧ (47 : UInt8) ∉ C ∧ C ≠ [] ∧ lineF k x wide pad none = A ++ (x.1.data.toList ++ C) := by
    have hv : (47 : UInt8) ∉ verT x := ver_not h.2 (by decide)
    cases wide <;> cases pad
    · exact ⟨k ++ [32], 32 :: verT x, by simp [hk.s], by simp [hv], by simp, by simp [lineF]⟩
    · exact ⟨32 :: (k ++ [32]), 32 :: (verT x ++ [32]), by simp [hk.s], by simp [hv], by simp, by simp [lineF]⟩
    · exact ⟨k ++ [32, 32, 32], 32 :: 32 :: 32 :: verT x, by simp [hk.s], by simp [hv], by simp, by simp [lineF]⟩
    · exact ⟨32 :: (k ++ [32, 32, 32]), 32 :: 32 :: 32 :: (verT x ++ [32]), by simp [hk.s], by simp [hv], by simp, by simp [lineF]⟩
  have hh : C.head? ≠ some 47 := by
    cases C with
    | nil => simp
    | cons y u => intro e; exact hC (by simp at e; simp [e])
  have hh2 : (C ++ [47]).head? ≠ some 47 := by
    cases C with
    | nil => exact absurd rfl hne
    | cons y u => simpa using hh
  rw [e]
  refine ⟨?_, ?_⟩
  · rw [ns_front hA]; exact ns_back hh (ns_none hC) (path_ns h.1)
  · rw [List.append_assoc, ns_front hA, List.append_assoc]
    exact ns_back hh2 (by rw [ns_front hC]; rfl) (path_ns h.1)
theorem lineF_words {k : List UInt8} {x : Md} (hk : KW k) (h : okM x) (wide pad : Bool) (note : Option (List UInt8)) : wordsC (lineF k x wide pad note) = wordsM k x := by
  have hp : (32 : UInt8) ∉ x.1.data.toList := path_not h.1 (by decide) (by decide)
  have hv : (32 : UInt8) ∉ verT x := ver_not h.2 (by decide)
  have hb : bareL (lineF k x wide pad note) = lineF k x wide pad none := by
    cases note with
    | none => exact bare_none (lineF_bare hk h wide pad).1
    | some t =>
      have := bare_note (r := t) (lineF_bare hk h wide pad).2
      rw [← this]
      congr 1
      simp [lineF]
  unfold wordsC
  rw [hb]
  have hw : ∀ sp : Bool, wordsL (k ++ (if sp then [32, 32, 32] else [32]) ++ x.1.data.toList ++ (if sp then [32, 32, 32] else [32]) ++ verT x) = wordsM k x := by
    intro sp
    cases sp
    · have := words_three hk.b hp hv hk.ne (path_ne h.1) (ver_ne h.2)
      simpa [wordsM] using this
    · have := words_wide hk.b hp hv hk.ne (path_ne h.1) (ver_ne h.2)
      simpa [wordsM] using this
  cases pad
  · exact hw wide
  · have := words_pad (l := k ++ (if wide then [32, 32, 32] else [32]) ++ x.1.data.toList ++ (if wide then [32, 32, 32] else [32]) ++ verT x)
    rw [hw wide] at this
    rw [← this]
    rfl
theorem lineF_no10 {k : List UInt8} {x : Md} (hk : KW k) (h : okM x) (wide pad : Bool) (note : Option (List UInt8)) (hn : ∀ t, note = some t → (10 : UInt8) ∉ t) : (10 : UInt8) ∉ lineF k x wide pad note := by
  have hp : (10 : UInt8) ∉ x.1.data.toList := path_not h.1 (by decide) (by decide)
  have hv : (10 : UInt8) ∉ verT x := ver_not h.2 (by decide)
  have hkn := hk.n
  cases wide <;> cases pad <;> cases note with
  | none => simp [lineF, hp, hv, hkn]
  | some t => have := hn t rfl; simp [lineF, hp, hv, hkn, this]
theorem lineF_ne {k : List UInt8} {x : Md} (hk : KW k) (wide pad : Bool) (note : Option (List UInt8)) : lineF k x wide pad note ≠ [] := by
  have := hk.ne
  cases wide <;> cases pad <;> cases note <;> simp [lineF, this]
/-! lines -/
theorem lines_cat {a : List UInt8} (h : (10 : UInt8) ∉ a) (r : List UInt8) : linesL (a ++ 10 :: r) = a :: linesL r := by
  unfold linesL
  rw [splitL_hit 10 a r h, dropE_cons _ _ (splitL_ne 10 r)]
theorem lines_last {a : List UInt8} (h : (10 : UInt8) ∉ a) (hne : a ≠ []) : linesL a = [a] := by
  unfold linesL
  rw [splitL_self 10 a h]
  unfold dropE
  simp [hne]
/-- lines, each with its end -/
def catL (L : List (List UInt8)) : List UInt8 := L.flatMap fun x => x ++ [10]
theorem lines_catL : ∀ {L : List (List UInt8)}, (∀ x ∈ L, (10 : UInt8) ∉ x) → linesL (catL L) = L
  | [], _ => rfl
  | x :: t, h => by
    have e : catL (x :: t) = x ++ 10 :: catL t := by simp [catL]
    rw [e, lines_cat (h x (by simp)), lines_catL (fun y hy => h y (by simp [hy]))]
theorem lines_catL_cut : ∀ {L : List (List UInt8)}, (∀ x ∈ L, (10 : UInt8) ∉ x) → (∀ x, L.getLast? = some x → x ≠ []) → linesL (catL L).dropLast = L
  | [], _, _ => rfl
  | [x], h, hl => by
    have e : (catL [x]).dropLast = x := by simp [catL]
    rw [e, lines_last (h x (by simp)) (hl x rfl)]
  | x :: y :: t, h, hl => by
    have e : (catL (x :: y :: t)).dropLast = x ++ 10 :: (catL (y :: t)).dropLast := by
      have : catL (x :: y :: t) = (x ++ [10]) ++ catL (y :: t) := by simp [catL]
      rw [this, List.dropLast_append_of_ne_nil (by simp [catL])]
      simp
    rw [e, lines_cat (h x (by simp)), lines_catL_cut (fun z hz => h z (by simp [hz])) (fun z hz => hl z (by rw [List.getLast?_cons_cons]; exact hz))]
/-! reading -/
/-- what is read out of lists of words -/
def scanW (V : List UInt8 → Option (Int × Int × Int)) : List (List (List UInt8)) → List Md → Option (List Md)
  | [], all => some all
  | x :: t, all => match readL V (if all = [] then kwM else kwR) x with
    | none => none
    | some m => scanW V t (all ++ [m])
theorem scan_words (V : List UInt8 → Option (Int × Int × Int)) : ∀ (L : List (List UInt8)) (n : Nat) (all R : List Md), scanW V ((L.map wordsC).filter fun x => !x.isEmpty) all = some R → scanL V L n all = .inr R
  | [], n, all, R, h => by
    simp only [List.map_nil, List.filter_nil, scanW, Option.some.injEq] at h
    rw [scanL, h]
  | x :: t, n, all, R, h => by
    rw [List.map_cons] at h
    rw [scanL]
    by_cases hx : wordsC x = []
    · rw [if_pos hx]
      rw [hx, List.filter_cons_of_neg (by simp)] at h
      exact scan_words V t (n + 1) all R h
    · rw [if_neg hx]
      rw [List.filter_cons_of_pos (by cases hw : wordsC x with
        | nil => exact absurd hw hx
        | cons _ _ => rfl)] at h
      rw [scanW] at h
      split at h
      · cases h
      · rename_i m hm
        rw [hm]
        exact scan_words V t (n + 1) _ R h
theorem scanW_req : ∀ (S all : List Md), all ≠ [] → (∀ y ∈ S, okM y) → scanW verV (S.map (wordsM kwR)) all = some (all ++ S)
  | [], all, _, _ => by simp [scanW]
  | y :: t, all, h, hS => by
    rw [List.map_cons, scanW, if_neg h, read_words (hS y (by simp))]
    simp only []
    rw [scanW_req t (all ++ [y]) (by simp) (fun z hz => hS z (by simp [hz]))]
    simp
theorem scanW_all {x : Md} {S : List Md} (hx : okM x) (hS : ∀ y ∈ S, okM y) : scanW verV (wordsM kwM x :: S.map (wordsM kwR)) [] = some (x :: S) := by
  rw [scanW, if_pos rfl, read_words hx]
  simp only [List.nil_append]
  rw [scanW_req S [x] (by simp) hS]
  rfl
/-- a text whose lines hold the words of a good manifest's lines is read as it -/
theorem parse_words {x : Md} {S l : List Md} {s : List UInt8} (hp : S.Perm l) (hc : chkM x l = 0) (hsz : s.length ≤ 65536) (hx : okM x) (hS : ∀ y ∈ S, okM y)
    (h : ((linesL s).map wordsC).filter (fun x => !x.isEmpty) = wordsM kwM x :: S.map (wordsM kwR)) : parseL verV s = .inr (x, sortM l) := by
  unfold parseL
  rw [if_neg (by omega), scan_words verV (linesL s) 1 [] (x :: S) (by rw [h]; exact scanW_all hx hS)]
  simp only []
  rw [sortM_turn hp, chkM_turn (sortM_perm l), hc, if_neg (by simp)]
theorem chk_good {x : Md} {l : List Md} (h : chkM x l = 0) : okM x ∧ ∀ y ∈ l, okM y := by
  have hall : ∀ y ∈ x :: l, okM y := by
    intro y hy
    rw [chkM_def] at h
    by_cases h1 : (x :: l).any p1 = true
    · rw [if_pos h1] at h; cases h
    · rw [if_neg h1] at h
      by_cases h2 : (x :: l).any p2 = true
      · rw [if_pos h2] at h; cases h
      · have a1 := List.any_eq_false.1 (Bool.eq_false_iff.2 h1) y hy
        have a2 := List.any_eq_false.1 (Bool.eq_false_iff.2 h2) y hy
        exact ⟨by simpa [p1] using a1, by simpa [p2] using a2⟩
  exact ⟨hall x (by simp), fun y hy => hall y (by simp [hy])⟩
theorem chk_few {x : Md} {l : List Md} (h : chkM x l = 0) : l.length ≤ 64 ∧ ((x :: l).map (·.1)).Nodup := by
  rw [chkM_def] at h
  split at h
  · cases h
  · split at h
    · cases h
    · split at h
      · cases h
      · rename_i h3
        split at h
        · cases h
        · refine ⟨by omega, ?_⟩
          unfold twiceB at h3
          simpa using h3
theorem line_form {k : List UInt8} {x : Md} (h : okM x) : (lineB ⟨k.toArray⟩ x).data.toList = lineF k x false false none ++ [10] := by
  unfold lineB txt
  rw [if_pos h.2]
  simp [lineF, ByteArray.data_append]
theorem text_form {x : Md} {S : List Md} (hx : okM x) (hS : ∀ y ∈ S, okM y) : textL x S = catL (lineF kwM x false false none :: S.map fun y => lineF kwR y false false none) := by
  have e0 : (lineB kM x).data.toList = lineF kwM x false false none ++ [10] := line_form (k := kwM) hx
  have e1 : ∀ y, okM y → (lineB kR y).data.toList = lineF kwR y false false none ++ [10] := fun y h => line_form (k := kwR) h
  unfold textL catL
  rw [List.flatMap_cons, e0]
  congr 1
  rw [List.flatMap_map]
  induction S with
  | nil => rfl
  | cons y t ih =>
    rw [List.flatMap_cons, List.flatMap_cons, e1 y (hS y (by simp)), ih (fun z hz => hS z (by simp [hz]))]
theorem map_words_req (S : List Md) (hS : ∀ y ∈ S, okM y) (f : Md → List UInt8) (hf : ∀ y ∈ S, wordsC (f y) = wordsM kwR y) : (((S.map f).map wordsC).filter fun x => !x.isEmpty) = S.map (wordsM kwR) := by
  induction S with
  | nil => rfl
  | cons y t ih =>
    rw [List.map_cons, List.map_cons, hf y (by simp), List.filter_cons_of_pos (by rfl), ih (fun z hz => hS z (by simp [hz])) (fun z hz => hf z (by simp [hz]))]
    rfl
theorem text_len {x : Md} {S : List Md} (hx : x.1.size ≤ 60) (hS : ∀ y ∈ S, y.1.size ≤ 60) : (textL x S).length ≤ 100 + S.length * 100 := by
  have h1 := flat_bound kR (by decide) S hS
  have h2 := line_le kM (by decide) x hx
  have h3 : (lineB kM x).data.toList.length = (lineB kM x).size := by simp
  unfold textL
  rw [List.length_append]; omega
/-- the reader reads what the writer writes -/
theorem parse_text {x : Md} {l : List Md} (hc : chkM x l = 0) : parseL verV (textL x (sortM l)) = .inr (x, sortM l) := by
  obtain ⟨hx, hl⟩ := chk_good hc
  have hS : ∀ y ∈ sortM l, okM y := fun y hy => hl y ((sortM_perm l).mem_iff.1 hy)
  have hp := chk_path hc
  have hlen := text_len (hp x (by simp)) (S := sortM l) (fun y hy => hp y (by simp [(sortM_perm l).mem_iff.1 hy]))
  have hfew := (chk_few hc).1
  rw [sortM_length] at hlen
  refine parse_words (sortM_perm l) hc (by omega) hx hS ?_
  rw [text_form hx hS, lines_catL]
  · rw [List.map_cons, lineF_words kwM_ok hx, List.filter_cons_of_pos (by rfl)]
    rw [map_words_req (sortM l) hS _ (fun y hy => lineF_words kwR_ok (hS y hy) _ _ _)]
  · intro z hz
    rcases List.mem_cons.1 hz with rfl | hz
    · exact lineF_no10 kwM_ok hx _ _ _ (fun _ h => by cases h)
    · obtain ⟨y, hy, rfl⟩ := List.mem_map.1 hz
      exact lineF_no10 kwR_ok (hS y hy) _ _ _ (fun _ h => by cases h)
end Go.Proofs.YtaeideimlagheaaGreatDoor
