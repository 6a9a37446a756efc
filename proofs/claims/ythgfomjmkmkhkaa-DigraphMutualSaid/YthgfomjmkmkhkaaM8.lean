/-
  Mathematics of the least order by counts: how many edges from nodes that are not in the order lead to a node; the free nodes in a heap. No world, no walk of a program.
-/
import Derived.Test.YthgfomjmkmkhkaaM7
namespace Go.Proofs.Ythgfomjmkmkhkaa
set_option linter.unusedSimpArgs false
set_option linter.unusedVariables false

def sumTo (f : Nat → Nat) : Nat → Nat
  | 0 => 0
  | n + 1 => sumTo f n + f n
theorem sumTo_congr {f h : Nat → Nat} : ∀ {n : Nat}, (∀ k, k < n → f k = h k) → sumTo f n = sumTo h n
  | 0, _ => rfl
  | n + 1, e => by show sumTo f n + f n = sumTo h n + h n; rw [sumTo_congr (fun k hk => e k (by omega)), e n (by omega)]
theorem sumTo_zero {f : Nat → Nat} : ∀ {n : Nat}, sumTo f n = 0 ↔ ∀ k, k < n → f k = 0
  | 0 => ⟨fun _ k hk => by omega, fun _ => rfl⟩
  | n + 1 => by
    show sumTo f n + f n = 0 ↔ _
    rw [Nat.add_eq_zero_iff, sumTo_zero (n := n)]
    constructor
    · rintro ⟨h1, h2⟩ k hk
      rcases Nat.lt_or_ge k n with h | h
      · exact h1 k h
      · obtain rfl : k = n := by omega
        exact h2
    · intro h; exact ⟨fun k hk => h k (by omega), h n (by omega)⟩
theorem sumTo_split {f h : Nat → Nat} {m : Nat} : ∀ {n : Nat}, m < n → (∀ k, k ≠ m → f k = h k) → h m = 0 → sumTo f n = sumTo h n + f m
  | 0, hm, _, _ => by omega
  | n + 1, hm, e, h0 => by
    show sumTo f n + f n = sumTo h n + h n + f m
    by_cases hmn : m = n
    · subst hmn
      rw [h0, sumTo_congr (fun k hk => e k (by omega))]; omega
    · rw [sumTo_split (n := n) (by omega) e h0, e n (Ne.symm hmn)]; omega

/-- how many edges lead from nodes that are not in the list to a node -/
def wt (g : Gr) (out : List Nat) (b : Nat) : Nat := sumTo (fun a => if a ∈ out then 0 else (suc g a).count (b : Int)) g.length
theorem wt_zero {g : Gr} {out : List Nat} {b : Nat} : wt g out b = 0 ↔ ∀ a, a < g.length → a ∈ out ∨ (b : Int) ∉ suc g a := by
  unfold wt
  rw [sumTo_zero]
  constructor
  · intro h a ha
    have := h a ha
    by_cases hm : a ∈ out
    · exact Or.inl hm
    · rw [if_neg hm, List.count_eq_zero] at this; exact Or.inr this
  · intro h a ha
    rcases h a ha with h | h
    · rw [if_pos h]
    · split
      · rfl
      · exact List.count_eq_zero.2 h
theorem wt_add {g : Gr} {out : List Nat} {n b : Nat} (hn : n < g.length) (ho : n ∉ out) : wt g out b = wt g (out ++ [n]) b + (suc g n).count (b : Int) := by
  unfold wt
  rw [sumTo_split (f := fun a => if a ∈ out then 0 else (suc g a).count (b : Int)) (h := fun a => if a ∈ out ++ [n] then 0 else (suc g a).count (b : Int)) (m := n) hn]
  · simp only [if_neg ho]
  · intro k hk
    by_cases hm : k ∈ out
    · rw [if_pos hm, if_pos (by simp [hm])]
    · rw [if_neg hm, if_neg (by simp [hm, hk])]
  · simp
theorem freeB_iff {g : Gr} {out : List Nat} {b : Nat} : freeB g out b = true ↔ b ∉ out ∧ wt g out b = 0 := by
  unfold freeB
  rw [Bool.and_eq_true, wt_zero, List.all_eq_true]
  simp only [Bool.not_eq_true', List.contains_eq_mem, decide_eq_false_iff_not, List.mem_range, Bool.or_eq_true, decide_eq_true_eq]
  constructor
  · rintro ⟨h1, h2⟩; exact ⟨h1, fun a ha => (h2 a ha).symm⟩
  · rintro ⟨h1, h2⟩; exact ⟨h1, fun a ha => (h2 a ha).symm⟩

/-- the counts while the edges are counted: those of the nodes below n, and the first j of n -/
def cw (g : Gr) (n j b : Nat) : Nat := sumTo (fun a => (suc g a).count (b : Int)) n + ((suc g n).take j).count (b : Int)
theorem cw_zero (g : Gr) (b : Nat) : cw g 0 0 b = 0 := by simp [cw, sumTo]
theorem cw_step {g : Gr} {n j b : Nat} {x : Int} (hx : (suc g n)[j]? = some x) : cw g n (j + 1) b = cw g n j b + if x = (b : Int) then 1 else 0 := by
  unfold cw
  have hj : j < (suc g n).length := by
    rcases Nat.lt_or_ge j (suc g n).length with h | h
    · exact h
    · rw [List.getElem?_eq_none h] at hx; cases hx
  rw [List.take_add_one, hx, List.count_append]
  by_cases h : x = (b : Int)
  · subst h; simp; omega
  · simp [h]
theorem cw_next {g : Gr} {n j b : Nat} (hj : (suc g n).length ≤ j) : cw g n j b = cw g (n + 1) 0 b := by
  unfold cw
  rw [List.take_of_length_le hj]
  simp [sumTo]
theorem cw_end (g : Gr) (b : Nat) : cw g g.length 0 b = wt g [] b := by
  unfold cw wt
  simp

/-- the search for the least order: out stands, W counts, H is the heap; node n has been put last, and its first j successors have been passed -/
structure TP (g : Gr) (out : List Nat) (n j : Nat) (W : List Int) (H : List Int) : Prop where
  wl : W.length = g.length
  nod : out.Nodup
  lt : ∀ x ∈ out, x < g.length
  mem : n ∈ out
  cnt : ∀ b, b < g.length → W[b]? = some ((wt g out b + ((suc g n).drop j).count (b : Int) : Nat) : Int)
  zer : ∀ b ∈ out, W[b]? = some 0
  hp : Heap H H.length
  hn : H.Nodup
  hm : ∀ x : Int, x ∈ H ↔ ∃ b : Nat, x = (b : Int) ∧ b < g.length ∧ b ∉ out ∧ W[b]? = some 0
/-- between two nodes -/
structure TQ (g : Gr) (out : List Nat) (W : List Int) (H : List Int) : Prop where
  wl : W.length = g.length
  nod : out.Nodup
  lt : ∀ x ∈ out, x < g.length
  cnt : ∀ b, b < g.length → W[b]? = some ((wt g out b : Nat) : Int)
  zer : ∀ b ∈ out, W[b]? = some 0
  hp : Heap H H.length
  hn : H.Nodup
  hm : ∀ x : Int, x ∈ H ↔ ∃ b : Nat, x = (b : Int) ∧ b < g.length ∧ b ∉ out ∧ W[b]? = some 0
/-- at first: the free nodes below k stand in the heap -/
structure TS (g : Gr) (k : Nat) (W : List Int) (H : List Int) : Prop where
  wl : W.length = g.length
  cnt : ∀ b, b < g.length → W[b]? = some ((wt g [] b : Nat) : Int)
  hp : Heap H H.length
  hn : H.Nodup
  hm : ∀ x : Int, x ∈ H ↔ ∃ b : Nat, x = (b : Int) ∧ b < k ∧ b < g.length ∧ W[b]? = some 0

theorem TP.q {g : Gr} {out : List Nat} {n j : Nat} {W H : List Int} (T : TP g out n j W H) (hj : (suc g n).length ≤ j) : TQ g out W H :=
  ⟨T.wl, T.nod, T.lt, fun b hb => by have := T.cnt b hb; rw [List.drop_eq_nil_of_le hj] at this; simpa using this, T.zer, T.hp, T.hn, T.hm⟩
theorem ts_start {g : Gr} {W : List Int} (hl : W.length = g.length) (h : ∀ b, b < g.length → W[b]? = some ((wt g [] b : Nat) : Int)) : TS g 0 W [] :=
  ⟨hl, h, by intro i h0 h1; simp at h1, List.nodup_nil, fun x => ⟨fun h => by simp at h, fun ⟨b, _, h, _⟩ => by omega⟩⟩
theorem ts_skip {g : Gr} {k : Nat} {W H : List Int} {v : Int} (T : TS g k W H) (hv : W[k]? = some v) (h : v ≠ 0) : TS g (k + 1) W H :=
  ⟨T.wl, T.cnt, T.hp, T.hn, fun x => by
    rw [T.hm]
    constructor
    · rintro ⟨b, h1, h2, h3⟩; exact ⟨b, h1, by omega, h3⟩
    · rintro ⟨b, h1, h2, h3, h4⟩
      refine ⟨b, h1, ?_, h3, h4⟩
      rcases Nat.lt_or_ge b k with h' | h'
      · exact h'
      · obtain rfl : b = k := by omega
        rw [hv] at h4; exact absurd (Option.some.inj h4) h⟩
theorem ts_push {g : Gr} {k : Nat} {W H Y : List Int} (T : TS g k W H) (hk : k < g.length) (hv : W[k]? = some 0) (P : PushOk H Y (k : Int)) : TS g (k + 1) W Y := by
  have hkH : (k : Int) ∉ H := by
    intro h
    obtain ⟨b, h1, h2, _⟩ := (T.hm _).1 h
    omega
  refine ⟨T.wl, T.cnt, P.2, ?_, fun x => ?_⟩
  · rw [P.1.nodup_iff, List.nodup_append]
    exact ⟨T.hn, by simp, by intro a ha b hb e; simp at hb; subst hb; subst e; exact hkH ha⟩
  · rw [P.1.mem_iff, List.mem_append, T.hm]
    constructor
    · rintro (⟨b, h1, h2, h3⟩ | h)
      · exact ⟨b, h1, by omega, h3⟩
      · simp at h; exact ⟨k, h, by omega, hk, hv⟩
    · rintro ⟨b, h1, h2, h3, h4⟩
      rcases Nat.lt_or_ge b k with h' | h'
      · exact Or.inl ⟨b, h1, h', h3, h4⟩
      · obtain rfl : b = k := by omega
        right; simp [h1]
theorem TS.q {g : Gr} {W H : List Int} (T : TS g g.length W H) : TQ g [] W H :=
  ⟨T.wl, List.nodup_nil, by simp, T.cnt, by simp, T.hp, T.hn, fun x => by
    rw [T.hm]
    constructor
    · rintro ⟨b, h1, h2, h3, h4⟩; exact ⟨b, h1, h3, by simp, h4⟩
    · rintro ⟨b, h1, h2, h3, h4⟩; exact ⟨b, h1, h2, h2, h4⟩⟩
/-- the least of the heap is the node that stands next -/
theorem tq_nxt {g : Gr} {out : List Nat} {W H Y : List Int} {x : Int} (T : TQ g out W H) (P : PopOk H Y x) : ∃ n : Nat, x = (n : Int) ∧ nxt g out = some n ∧ TP g (out ++ [n]) n 0 W Y := by
  have hx : x ∈ H := P.1.mem_iff.2 (by simp)
  obtain ⟨n, rfl, hn, ho, hw⟩ := (T.hm x).1 hx
  have hfree : ∀ b, b < g.length → (freeB g out b = true ↔ (b : Int) ∈ H) := fun b hb => by
    rw [freeB_iff, T.hm]
    constructor
    · rintro ⟨h1, h2⟩; exact ⟨b, rfl, hb, h1, by rw [T.cnt b hb, h2]; rfl⟩
    · rintro ⟨c, h1, h2, h3, h4⟩
      obtain rfl : b = c := by omega
      rw [T.cnt b hb] at h4
      have := Option.some.inj h4
      exact ⟨h3, by omega⟩
  have hnod := (P.1.nodup_iff).1 T.hn
  refine ⟨n, rfl, nxt_some.2 ⟨hn, (hfree n hn).2 hx, fun c hc => ?_⟩, ?_⟩
  · rw [← Bool.not_eq_true, hfree c (by omega)]
    intro h
    have := P.2.2 _ h
    omega
  · refine ⟨T.wl, ?_, ?_, by simp, ?_, ?_, P.2.1, (List.nodup_cons.1 hnod).2, ?_⟩
    · exact List.nodup_append.2 ⟨T.nod, by simp, by intro a ha b hb e; simp at hb; subst hb; subst e; exact ho ha⟩
    · intro y hy
      rcases List.mem_append.1 hy with h | h
      · exact T.lt y h
      · simp at h; subst h; exact hn
    · intro b hb
      rw [T.cnt b hb, wt_add hn ho, List.drop_zero]
    · intro b hb
      rcases List.mem_append.1 hb with h | h
      · exact T.zer b h
      · simp at h; subst h; exact hw
    · intro y
      have h1 : y ∈ Y ↔ y ∈ H ∧ y ≠ (n : Int) := by
        rw [P.1.mem_iff, List.mem_cons]
        constructor
        · intro h; exact ⟨Or.inr h, fun e => by subst e; exact (List.nodup_cons.1 hnod).1 h⟩
        · rintro ⟨h | h, h2⟩
          · exact absurd h h2
          · exact h
      rw [h1, T.hm]
      constructor
      · rintro ⟨⟨b, e, h2, h3, h4⟩, h5⟩
        refine ⟨b, e, h2, ?_, h4⟩
        simp [h3]; intro e'; subst e'; exact h5 e
      · rintro ⟨b, e, h2, h3, h4⟩
        simp at h3
        exact ⟨⟨b, e, h2, h3.1, h4⟩, fun e' => h3.2 (by omega)⟩
theorem tq_none {g : Gr} {out : List Nat} {W : List Int} (T : TQ g out W []) : nxt g out = none := by
  rw [nxt_none]
  intro c hc
  rw [← Bool.not_eq_true, freeB_iff]
  rintro ⟨h1, h2⟩
  have := (T.hm (c : Int)).2 ⟨c, rfl, hc, h1, by rw [T.cnt c hc, h2]; rfl⟩
  simp at this
/-- a successor that is no node -/
theorem tp_skip {g : Gr} {out : List Nat} {n j : Nat} {W H : List Int} {x : Int} (T : TP g out n j W H) (hx : (suc g n)[j]? = some x) (h : ∀ b : Nat, x = (b : Int) → ¬ b < g.length) : TP g out n (j + 1) W H := by
  have hj : j < (suc g n).length := by
    rcases Nat.lt_or_ge j (suc g n).length with h | h
    · exact h
    · rw [List.getElem?_eq_none h] at hx; cases hx
  refine ⟨T.wl, T.nod, T.lt, T.mem, fun b hb => ?_, T.zer, T.hp, T.hn, T.hm⟩
  rw [T.cnt b hb, List.drop_eq_getElem_cons hj, List.count_cons]
  rw [List.getElem?_eq_getElem hj] at hx
  have := Option.some.inj hx
  rw [this]
  have hxb : (x == (b : Int)) = false := beq_eq_false_iff_ne.2 (fun e => h b e hb)
  rw [hxb]; simp
/-- a successor: its count is at least 1; it is lowered -/
theorem tp_pos {g : Gr} {out : List Nat} {n j m : Nat} {W H : List Int} (T : TP g out n j W H) (hx : (suc g n)[j]? = some (m : Int)) (hm : m < g.length) : ∃ v : Nat, W[m]? = some ((v : Int) + 1) ∧ m ∉ out ∧ v = wt g out m + ((suc g n).drop (j + 1)).count (m : Int) := by
  have hj : j < (suc g n).length := by
    rcases Nat.lt_or_ge j (suc g n).length with h | h
    · exact h
    · rw [List.getElem?_eq_none h] at hx; cases hx
  have hc := T.cnt m hm
  rw [List.drop_eq_getElem_cons hj, List.count_cons] at hc
  rw [List.getElem?_eq_getElem hj] at hx
  rw [Option.some.inj hx] at hc
  simp at hc
  refine ⟨_, ?_, fun ho => ?_, rfl⟩
  · rw [hc]; congr 1
  · rw [T.zer m ho] at hc
    have := Option.some.inj hc
    omega
theorem tp_dec {g : Gr} {out : List Nat} {n j m : Nat} {W H : List Int} {v : Nat} (T : TP g out n j W H) (hx : (suc g n)[j]? = some (m : Int)) (hm : m < g.length) (ho : m ∉ out) (hv : v = wt g out m + ((suc g n).drop (j + 1)).count (m : Int)) :
    (∀ b, b < g.length → (W.set m (v : Int))[b]? = some ((wt g out b + ((suc g n).drop (j + 1)).count (b : Int) : Nat) : Int)) ∧ (∀ b ∈ out, (W.set m (v : Int))[b]? = some 0) := by
  have hj : j < (suc g n).length := by
    rcases Nat.lt_or_ge j (suc g n).length with h | h
    · exact h
    · rw [List.getElem?_eq_none h] at hx; cases hx
  have hml : m < W.length := by rw [T.wl]; exact hm
  rw [List.getElem?_eq_getElem hj] at hx
  have hx' := Option.some.inj hx
  refine ⟨fun b hb => ?_, fun b hb => ?_⟩
  · by_cases hmb : m = b
    · subst hmb
      rw [List.getElem?_set_self hml, hv]
    · rw [List.getElem?_set_ne hmb, T.cnt b hb, List.drop_eq_getElem_cons hj, List.count_cons, hx']
      have : ((m : Int) == (b : Int)) = false := beq_eq_false_iff_ne.2 (by omega)
      rw [this]; simp
  · rw [List.getElem?_set_ne (fun e => by subst e; exact ho hb)]
    exact T.zer b hb
theorem tp_stay {g : Gr} {out : List Nat} {n j m : Nat} {W H : List Int} {v : Nat} (T : TP g out n j W H) (hx : (suc g n)[j]? = some (m : Int)) (hm : m < g.length) (ho : m ∉ out) (hw : W[m]? = some ((v : Int) + 1)) (hv : v = wt g out m + ((suc g n).drop (j + 1)).count (m : Int)) (h0 : v ≠ 0) : TP g out n (j + 1) (W.set m (v : Int)) H := by
  have hml : m < W.length := by rw [T.wl]; exact hm
  obtain ⟨h1, h2⟩ := tp_dec T hx hm ho hv
  refine ⟨by simp [T.wl], T.nod, T.lt, T.mem, h1, h2, T.hp, T.hn, fun x => ?_⟩
  rw [T.hm]
  constructor
  · rintro ⟨b, e, hb, hbo, hb0⟩
    refine ⟨b, e, hb, hbo, ?_⟩
    rw [List.getElem?_set_ne (fun e' => by subst e'; rw [hw] at hb0; have := Option.some.inj hb0; omega)]
    exact hb0
  · rintro ⟨b, e, hb, hbo, hb0⟩
    refine ⟨b, e, hb, hbo, ?_⟩
    by_cases hmb : m = b
    · subst hmb
      rw [List.getElem?_set_self hml] at hb0
      have := Option.some.inj hb0
      omega
    · rw [List.getElem?_set_ne hmb] at hb0; exact hb0
theorem tp_push {g : Gr} {out : List Nat} {n j m : Nat} {W H Y : List Int} (T : TP g out n j W H) (hx : (suc g n)[j]? = some (m : Int)) (hm : m < g.length) (ho : m ∉ out) (hw : W[m]? = some 1) (hv : 0 = wt g out m + ((suc g n).drop (j + 1)).count (m : Int)) (P : PushOk H Y (m : Int)) : TP g out n (j + 1) (W.set m 0) Y := by
  have hml : m < W.length := by rw [T.wl]; exact hm
  obtain ⟨h1, h2⟩ := tp_dec T hx hm ho hv
  have hmH : (m : Int) ∉ H := by
    intro h
    obtain ⟨b, e, _, _, h4⟩ := (T.hm _).1 h
    obtain rfl : m = b := by omega
    rw [hw] at h4; have := Option.some.inj h4; omega
  refine ⟨by simp [T.wl], T.nod, T.lt, T.mem, h1, h2, P.2, ?_, fun x => ?_⟩
  · rw [P.1.nodup_iff, List.nodup_append]
    exact ⟨T.hn, by simp, by intro a ha b hb e; simp at hb; subst hb; subst e; exact hmH ha⟩
  · rw [P.1.mem_iff, List.mem_append, T.hm]
    constructor
    · rintro (⟨b, e, hb, hbo, hb0⟩ | h)
      · refine ⟨b, e, hb, hbo, ?_⟩
        rw [List.getElem?_set_ne (fun e' => by subst e'; rw [hw] at hb0; have := Option.some.inj hb0; omega)]
        exact hb0
      · simp at h
        exact ⟨m, h, hm, ho, by rw [List.getElem?_set_self hml]⟩
    · rintro ⟨b, e, hb, hbo, hb0⟩
      by_cases hmb : m = b
      · subst hmb; right; simp [e]
      · rw [List.getElem?_set_ne hmb] at hb0
        exact Or.inl ⟨b, e, hb, hbo, hb0⟩
end Go.Proofs.Ythgfomjmkmkhkaa
