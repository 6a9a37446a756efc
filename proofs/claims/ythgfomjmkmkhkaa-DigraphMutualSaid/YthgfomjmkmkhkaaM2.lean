/-
  Mathematics for Distances: the search by a queue (Bfs) and the search by layers (Lay) both end at the list of all distances. No world, no walk of a program.
-/
import Derived.Test.YthgfomjmkmkhkaaM1
namespace Go.Proofs.Ythgfomjmkmkhkaa
set_option linter.unusedVariables false

theorem dist_self {g : Gr} {a : Nat} (h : a < g.length) : dist g a a = 0 := dist_far (Far.zero h)

theorem dist_nonneg {g : Gr} {a b : Nat} (h : 0 ≤ dist g a b) : ∃ d : Nat, dist g a b = (d : Int) ∧ Far g a b d := by
  obtain ⟨d, hd⟩ := Int.eq_ofNat_of_zero_le h
  exact ⟨d, hd, far_dist hd⟩

theorem dist_cases (g : Gr) (a b : Nat) : dist g a b = -1 ∨ 0 ≤ dist g a b := by
  by_cases hx : ∃ d, Far g a b d
  · obtain ⟨e, he⟩ := hx
    rw [dist_far he]; right; omega
  · left; exact dist_none (fun d hd => hx ⟨d, hd⟩)

theorem dist_step {g : Gr} {a b c : Nat} (h : 0 ≤ dist g a b) (e : Edge g b c) : 0 ≤ dist g a c ∧ dist g a c ≤ dist g a b + 1 := by
  obtain ⟨d, hd, hf⟩ := dist_nonneg h
  obtain ⟨k, hk, hf2⟩ := hf.step e
  rw [dist_far hf2, hd]; omega

theorem dist_pred {g : Gr} {a c : Nat} (h : 0 < dist g a c) : ∃ b, dist g a b = dist g a c - 1 ∧ Edge g b c := by
  obtain ⟨d, hd, hf⟩ := dist_nonneg (Int.le_of_lt h)
  obtain ⟨d, rfl⟩ : ∃ e, d = e + 1 := ⟨d - 1, by omega⟩
  obtain ⟨b, hb, e⟩ := hf.last
  exact ⟨b, by rw [dist_far hb, hd]; omega, e⟩

theorem dist_eq_zero {g : Gr} {a c : Nat} (h : dist g a c = 0) : c = a := by
  have := far_dist (d := 0) h
  exact this.1.zero.symm

/-- the search by a queue: F is what was found, its first i nodes are done -/
structure Bfs (g : Gr) (a : Nat) (D : List Int) (F : List Nat) (i : Nat) : Prop where
  len : D.length = g.length
  nod : F.Nodup
  mem : ∀ x ∈ F, x < g.length ∧ D[x]? = some (dist g a x) ∧ 0 ≤ dist g a x
  oth : ∀ x, x < g.length → x ∉ F → D[x]? = some (-1)
  srt : F.Pairwise (fun x y => dist g a x ≤ dist g a y)
  src : a ∈ F
  lim : ∀ n, F[i]? = some n → ∀ x ∈ F, dist g a x ≤ dist g a n + 1
  don : ∀ j n, j < i → F[j]? = some n → ∀ c, Edge g n c → c ∈ F
  cmp : ∀ n, F[i]? = some n → ∀ x, 0 ≤ dist g a x → dist g a x < dist g a n → x ∈ F.take i

theorem bfs_start {g : Gr} {a : Nat} (h : a < g.length) : Bfs g a ((List.replicate g.length (-1)).set a 0) [a] 0 where
  len := by simp
  nod := by simp
  mem := by
    intro x hx
    obtain rfl : x = a := by simpa using hx
    refine ⟨h, ?_, ?_⟩
    · rw [dist_self h]; simp [h]
    · rw [dist_self h]; omega
  oth := by
    intro x hx hn
    have : x ≠ a := by simpa using hn
    rw [List.getElem?_set_ne (Ne.symm this)]
    simp [hx]
  srt := by simp
  src := by simp
  lim := by
    intro n hn x hx
    simp at hn hx; subst hn; subst hx; omega
  don := by intro j n hj; omega
  cmp := by
    intro n hn x h0 hl
    simp at hn; subst hn
    rw [dist_self h] at hl; omega

theorem Bfs.lt {g : Gr} {a : Nat} {D : List Int} {F : List Nat} {i : Nat} (B : Bfs g a D F i) {x : Nat} (hx : x ∈ F) : x < D.length := by rw [B.len]; exact (B.mem x hx).1

theorem Bfs.neg {g : Gr} {a : Nat} {D : List Int} {F : List Nat} {i : Nat} (B : Bfs g a D F i) {x : Nat} {v : Int} (hv : D[x]? = some v) : v < 0 ↔ x ∉ F := by
  have hx : x < g.length := by
    rcases Nat.lt_or_ge x D.length with h | h
    · rw [← B.len]; exact h
    · rw [List.getElem?_eq_none h] at hv; cases hv
  constructor
  · intro h hm
    have := (B.mem x hm).2
    rw [hv] at this
    have h1 := Option.some.inj this.1
    omega
  · intro h
    have := B.oth x hx h
    rw [hv] at this
    have h1 := Option.some.inj this
    omega

theorem bfs_visit {g : Gr} {a : Nat} {D : List Int} {F : List Nat} {i n m : Nat} (B : Bfs g a D F i) (hn : F[i]? = some n) (e : Edge g n m) (hm : m ∉ F) :
    Bfs g a (D.set m (dist g a n + 1)) (F ++ [m]) i := by
  have hnF : n ∈ F := List.mem_of_getElem? hn
  have hi : i < F.length := by
    rcases Nat.lt_or_ge i F.length with h | h
    · exact h
    · rw [List.getElem?_eq_none h] at hn; cases hn
  have hdn := (B.mem n hnF).2.2
  obtain ⟨h0, h1⟩ := dist_step hdn e
  have hne0 : dist g a m ≠ 0 := fun h => hm (dist_eq_zero h ▸ B.src)
  have hdm : dist g a m = dist g a n + 1 := by
    by_cases hle : dist g a m ≤ dist g a n
    · exfalso
      obtain ⟨b, hb, eb⟩ := dist_pred (g := g) (a := a) (c := m) (by omega)
      have hbt := B.cmp n hn b (by omega) (by omega)
      obtain ⟨j, hj, rfl⟩ := List.mem_iff_getElem.1 hbt
      have hj2 : j < i := by simp at hj; omega
      have hjF : j < F.length := by omega
      rw [List.getElem_take] at eb
      exact hm (B.don j F[j] hj2 (List.getElem?_eq_getElem hjF) m eb)
    · omega
  have hmD : m < D.length := by rw [B.len]; exact e.2.1
  exact {
    len := by simp [B.len]
    nod := by
      rw [List.nodup_append]
      exact ⟨B.nod, by simp, fun x hx y hy => by simp at hy; subst hy; exact fun h => hm (by rw [← h]; exact hx)⟩
    mem := by
      intro x hx
      rcases List.mem_append.1 hx with hx | hx
      · obtain ⟨k1, k2, k3⟩ := B.mem x hx
        refine ⟨k1, ?_, k3⟩
        rw [List.getElem?_set_ne (fun h => hm (by rw [h]; exact hx))]; exact k2
      · simp at hx; subst hx
        refine ⟨e.2.1, ?_, by omega⟩
        rw [hdm]; simp [hmD]
    oth := by
      intro x hx hxn
      simp at hxn
      rw [List.getElem?_set_ne (fun h => hxn.2 h.symm)]
      exact B.oth x hx hxn.1
    srt := by
      rw [List.pairwise_append]
      refine ⟨B.srt, by simp, fun x hx y hy => ?_⟩
      simp at hy; subst hy
      have := B.lim n hn x hx
      omega
    src := List.mem_append_left _ B.src
    lim := by
      intro n' hn' x hx
      rw [List.getElem?_append_left hi, hn] at hn'
      obtain rfl := Option.some.inj hn'
      rcases List.mem_append.1 hx with hx | hx
      · exact B.lim n hn x hx
      · simp at hx; subst hx; omega
    don := by
      intro j n' hj hn' c ec
      rw [List.getElem?_append_left (by omega)] at hn'
      exact List.mem_append_left _ (B.don j n' hj hn' c ec)
    cmp := by
      intro n' hn' x hx0 hx
      rw [List.getElem?_append_left hi, hn] at hn'
      obtain rfl := Option.some.inj hn'
      rw [List.take_append_of_le_length (by omega)]
      exact B.cmp n hn x hx0 hx }

theorem bfs_next {g : Gr} {a : Nat} {D : List Int} {F : List Nat} {i n : Nat} (B : Bfs g a D F i) (hn : F[i]? = some n) (hd : ∀ c, Edge g n c → c ∈ F) : Bfs g a D F (i + 1) := by
  have hnF : n ∈ F := List.mem_of_getElem? hn
  have hi : i < F.length := by
    rcases Nat.lt_or_ge i F.length with h | h
    · exact h
    · rw [List.getElem?_eq_none h] at hn; cases hn
  have hni : F[i] = n := by rw [List.getElem?_eq_getElem hi] at hn; exact Option.some.inj hn
  exact {
    len := B.len, nod := B.nod, mem := B.mem, oth := B.oth, srt := B.srt, src := B.src
    lim := by
      intro n' hn' x hx
      have hi' : i + 1 < F.length := by
        rcases Nat.lt_or_ge (i + 1) F.length with h | h
        · exact h
        · rw [List.getElem?_eq_none h] at hn'; cases hn'
      have hq : F[i + 1] = n' := by rw [List.getElem?_eq_getElem hi'] at hn'; exact Option.some.inj hn'
      have h1 := B.lim n hn x hx
      have h2 := List.pairwise_iff_getElem.1 B.srt i (i + 1) hi hi' (by omega)
      rw [hni, hq] at h2
      omega
    don := by
      intro j n' hj hn' c ec
      by_cases hji : j = i
      · subst hji
        rw [hn] at hn'
        obtain rfl := Option.some.inj hn'
        exact hd c ec
      · exact B.don j n' (by omega) hn' c ec
    cmp := by
      intro n' hn' x hx0 hx
      have hi' : i + 1 < F.length := by
        rcases Nat.lt_or_ge (i + 1) F.length with h | h
        · exact h
        · rw [List.getElem?_eq_none h] at hn'; cases hn'
      have hq : F[i + 1] = n' := by rw [List.getElem?_eq_getElem hi'] at hn'; exact Option.some.inj hn'
      have h1 := B.lim n hn n' (List.mem_of_getElem? hn')
      have hxF : x ∈ F := by
        by_cases hlt : dist g a x < dist g a n
        · exact List.mem_of_mem_take (B.cmp n hn x hx0 hlt)
        · have hxe : dist g a x = dist g a n := by omega
          by_cases h0 : dist g a x = 0
          · rw [dist_eq_zero h0]; exact B.src
          · obtain ⟨b, hb, eb⟩ := dist_pred (g := g) (a := a) (c := x) (by omega)
            have hbt := B.cmp n hn b (by omega) (by omega)
            obtain ⟨j, hj, rfl⟩ := List.mem_iff_getElem.1 hbt
            have hj2 : j < i := by simp at hj; omega
            rw [List.getElem_take] at eb
            exact B.don j F[j] hj2 (List.getElem?_eq_getElem (by omega)) x eb
      obtain ⟨j, hj, rfl⟩ := List.mem_iff_getElem.1 hxF
      have hji : j < i + 1 := by
        rcases Nat.lt_or_ge j (i + 1) with h | h
        · exact h
        · exfalso
          by_cases he : j = i + 1
          · subst he; rw [hq] at hx; omega
          · have h2 := List.pairwise_iff_getElem.1 B.srt (i + 1) j hi' hj (by omega)
            rw [hq] at h2; omega
      rw [List.mem_iff_getElem]
      exact ⟨j, by simp; omega, by rw [List.getElem_take]⟩ }

/-- all distances -/
noncomputable def dists (g : Gr) (a : Nat) : List Int := (List.range g.length).map (dist g a)

theorem dists_len (g : Gr) (a : Nat) : (dists g a).length = g.length := by simp [dists]

theorem dists_get {g : Gr} {a b : Nat} (h : b < g.length) : (dists g a)[b]? = some (dist g a b) := by
  unfold dists; rw [List.getElem?_map, List.getElem?_range h]; rfl

theorem eq_dists {g : Gr} {a : Nat} {D : List Int} (hl : D.length = g.length) (h : ∀ x, x < g.length → D[x]? = some (dist g a x)) : D = dists g a := by
  apply List.ext_getElem?
  intro x
  rcases Nat.lt_or_ge x g.length with hx | hx
  · rw [h x hx, dists_get hx]
  · rw [List.getElem?_eq_none (by omega), List.getElem?_eq_none (by rw [dists_len]; exact hx)]

theorem bfs_end {g : Gr} {a : Nat} {D : List Int} {F : List Nat} {i : Nat} (B : Bfs g a D F i) (hi : F.length ≤ i) : D = dists g a := by
  refine eq_dists B.len fun x hx => ?_
  have hall : ∀ n y, Walk g a y n → y ∈ F := by
    intro n
    induction n with
    | zero => intro y w; rw [← w.zero]; exact B.src
    | succ n ih =>
      intro y w
      obtain ⟨b, wb, e⟩ := w.last
      have hb := ih b wb
      obtain ⟨j, hj, rfl⟩ := List.mem_iff_getElem.1 hb
      exact B.don j F[j] (by omega) (List.getElem?_eq_getElem hj) y e
  by_cases hm : x ∈ F
  · exact (B.mem x hm).2.1
  · rw [B.oth x hx hm]
    rcases dist_cases g a x with h | h
    · rw [h]
    · obtain ⟨d, hd, hf⟩ := dist_nonneg h
      exact absurd (hall d x hf.1) hm

/-- the search by layers: layer d is at work, the pairs P are done -/
structure Lay (g : Gr) (a d : Nat) (out : List Int) (P : Nat → Nat → Prop) : Prop where
  len : out.length = g.length
  low : ∀ x, x < g.length → 0 ≤ dist g a x → dist g a x ≤ d → out[x]? = some (dist g a x)
  hig : ∀ x, x < g.length → ¬ (0 ≤ dist g a x ∧ dist g a x ≤ d) → out[x]? = some (-1) ∨ (out[x]? = some ((d : Int) + 1) ∧ dist g a x = d + 1)
  pro : ∀ y z, P y z → Edge g y z → dist g a y = d → out[z]? ≠ some (-1)

theorem lay_start {g : Gr} {a : Nat} (h : a < g.length) : Lay g a 0 ((List.replicate g.length (-1)).set a 0) (fun _ _ => False) where
  len := by simp
  low := by
    intro x hx h0 h1
    have : dist g a x = 0 := by omega
    have hxa := dist_eq_zero this
    subst hxa
    rw [this]; simp [h]
  hig := by
    intro x hx hn
    have hxa : x ≠ a := fun e => hn (by subst e; rw [dist_self hx]; omega)
    left
    rw [List.getElem?_set_ne (Ne.symm hxa)]; simp [hx]
  pro := by intro y z h; exact h.elim

theorem Lay.at {g : Gr} {a d : Nat} {out : List Int} {P : Nat → Nat → Prop} (L : Lay g a d out P) {y : Nat} {v : Int} (hv : out[y]? = some v) : v = (d : Int) ↔ dist g a y = d := by
  have hy : y < g.length := by
    rcases Nat.lt_or_ge y out.length with h | h
    · rw [← L.len]; exact h
    · rw [List.getElem?_eq_none h] at hv; cases hv
  by_cases hc : 0 ≤ dist g a y ∧ dist g a y ≤ d
  · have := L.low y hy hc.1 hc.2
    rw [hv] at this
    rw [Option.some.inj this]
  · rcases L.hig y hy hc with h | ⟨h, h2⟩ <;> rw [hv] at h <;> have h1 := Option.some.inj h
    · rw [h1]; constructor <;> intro h3 <;> omega
    · rw [h1]; constructor <;> intro h3 <;> omega

/-- a pair at which nothing is to be done -/
theorem lay_skip {g : Gr} {a d : Nat} {out : List Int} {P : Nat → Nat → Prop} (L : Lay g a d out P) (Q : Nat → Nat → Prop) (h : ∀ y z, Q y z → P y z ∨ ¬ Edge g y z ∨ dist g a y ≠ d ∨ out[z]? ≠ some (-1)) : Lay g a d out Q where
  len := L.len
  low := L.low
  hig := L.hig
  pro := by
    intro y z hq e hy
    rcases h y z hq with h | h | h | h
    · exact L.pro y z h e hy
    · exact absurd e h
    · exact absurd hy h
    · exact h

theorem lay_set {g : Gr} {a d y z : Nat} {out : List Int} {P : Nat → Nat → Prop} {v : Int} (L : Lay g a d out P) (e : Edge g y z) (hy : dist g a y = d) (hz : out[z]? = some v) (hv : v < 0) :
    Lay g a d (out.set z ((d : Int) + 1)) (fun b c => P b c ∨ c = z) := by
  have hzl : z < out.length := by rw [L.len]; exact e.2.1
  obtain ⟨h0, h1⟩ := dist_step (g := g) (a := a) (b := y) (c := z) (by omega) e
  have hnl : ¬ (0 ≤ dist g a z ∧ dist g a z ≤ d) := by
    intro hc
    have := L.low z e.2.1 hc.1 hc.2
    rw [hz] at this
    have := Option.some.inj this
    omega
  have hdz : dist g a z = d + 1 := by omega
  exact {
    len := by simp [L.len]
    low := by
      intro x hx hx0 hx1
      rw [List.getElem?_set_ne (fun h => by subst h; omega)]
      exact L.low x hx hx0 hx1
    hig := by
      intro x hx hn
      by_cases hxz : z = x
      · subst hxz
        right
        exact ⟨by simp [hzl], hdz⟩
      · rw [List.getElem?_set_ne hxz]; exact L.hig x hx hn
    pro := by
      intro b c hp eb hb
      by_cases hcz : z = c
      · subst hcz
        simp [hzl]; omega
      · rw [List.getElem?_set_ne hcz]
        rcases hp with hp | hp
        · exact L.pro b c hp eb hb
        · exact absurd hp.symm hcz }

theorem lay_next {g : Gr} {a d : Nat} {out : List Int} {P : Nat → Nat → Prop} (L : Lay g a d out P) (h : ∀ y z, y < g.length → z < g.length → P y z) : Lay g a (d + 1) out (fun _ _ => False) where
  len := L.len
  low := by
    intro x hx h0 h1
    by_cases hc : dist g a x ≤ d
    · exact L.low x hx h0 hc
    · rcases L.hig x hx (fun q => hc q.2) with hq | ⟨hq, h2⟩
      · exfalso
        obtain ⟨b, hb, e⟩ := dist_pred (g := g) (a := a) (c := x) (by omega)
        exact L.pro b x (h b x e.1 hx) e (by omega) hq
      · rw [hq, h2]
  hig := by
    intro x hx hn
    left
    rcases L.hig x hx (fun q => hn ⟨q.1, by have := q.2; omega⟩) with hq | ⟨hq, h2⟩
    · exact hq
    · exact absurd ⟨by omega, by omega⟩ hn
  pro := by intro y z h; exact h.elim

theorem lay_end {g : Gr} {a d : Nat} {out : List Int} {P : Nat → Nat → Prop} (L : Lay g a d out P) (hd : g.length ≤ d) : out = dists g a := by
  refine eq_dists L.len fun x hx => ?_
  have hlt := dist_lt g a x
  rcases dist_cases g a x with h | h
  · rcases L.hig x hx (fun q => by omega) with hq | ⟨hq, h2⟩
    · rw [hq, h]
    · omega
  · exact L.low x hx h (by omega)
end Go.Proofs.Ythgfomjmkmkhkaa
