/-
  The law of the owner. Paths of at most 140737488355328 bytes. Conditions: the table of powers of ten, internal/bytealg.MaxLen holds some number, the two error variables of strconv hold interface values.
-/
import Derived.Test.YtmmghdicjpfdoaaGreatDoorEA
import Derived.Test.YtmmghdicjpfdoaaGreatDoorOR
namespace Go.Proofs.YtmmghdicjpfdoaaGreatDoor
open Go.RowKit Go.Sort Go.Lib Go.Shelf Go.Proofs
set_option linter.unusedSimpArgs false
set_option linter.unnecessarySimpa false
set_option linter.unusedVariables false
theorem own_from (path : List UInt8) : ∀ (ps : List (List UInt8)) (k : Nat) (b : Best) (i n : Nat) (r : List UInt8), ownL path ps k b = some (i, n, r) → b = some (i, n, r) ∨ ∃ j p, i = k + j ∧ ps[j]? = some p ∧ belowL path p = some r
  | [], k, b, i, n, r, h => .inl h
  | p :: t, k, b, i, n, r, h => by
    simp only [ownL] at h
    cases hb : belowL path p with
    | none =>
      rw [hb] at h
      rcases own_from path t (k + 1) b i n r h with e | ⟨j, q, h1, h2, h3⟩
      · exact .inl e
      · exact .inr ⟨j + 1, q, by omega, by simpa using h2, h3⟩
    | some r' =>
      rw [hb] at h
      have h' : ownL path t (k + 1) (some (k, p.length, r')) = some (i, n, r) ∨ ownL path t (k + 1) b = some (i, n, r) := by
        cases b with
        | none => exact .inl (by simpa using h)
        | some q =>
          obtain ⟨a1, a2, a3⟩ := q
          by_cases hc : a2 < p.length
          · exact .inl (by simpa [hc] using h)
          · exact .inr (by simpa [hc] using h)
      clear h
      rcases h' with h | h
      · rcases own_from path t (k + 1) _ i n r h with e | ⟨j, q, h1, h2, h3⟩
        · simp only [Option.some.injEq, Prod.mk.injEq] at e
          obtain ⟨e1, _, e3⟩ := e
          exact .inr ⟨0, p, by omega, rfl, by rw [hb, e3]⟩
        · exact .inr ⟨j + 1, q, by omega, by simpa using h2, h3⟩
      · rcases own_from path t (k + 1) b i n r h with e | ⟨j, q, h1, h2, h3⟩
        · exact .inl e
        · exact .inr ⟨j + 1, q, by omega, by simpa using h2, h3⟩
theorem below_parts {path p r : List UInt8} (h : belowL path p = some r) : (path = p ∧ r = []) ∨ p ++ 47 :: r = path := by
  unfold belowL at h
  split at h
  · next e => simp only [Option.some.injEq] at h; exact .inl ⟨e, h.symm⟩
  · split at h
    · next e =>
      simp only [Option.some.injEq] at h
      obtain ⟨t, ht⟩ := List.isPrefixOf_iff_prefix.1 e
      subst h
      refine .inr ?_
      rw [← ht]
      simp
    · cases h
theorem join_bytes' (a : ByteArray) (r : List UInt8) : (a ++ (⟨#[47]⟩ : ByteArray) ++ (⟨r.toArray⟩ : ByteArray)).data.toList = a.data.toList ++ 47 :: r := by simp [ByteArray.data_append]
/-- what the owner says of a path -/
theorem own_parts {path : ByteArray} {l : List Md} {i n : Nat} {r : List UInt8} (h : ownL path.data.toList (pathsL l) 0 none = some (i, n, r)) :
    ∃ hi : i < l.length, (path.data.toList = l[i].1.data.toList ∧ r = []) ∨ (¬ path.data.toList = l[i].1.data.toList ∧ l[i].1.data.toList ++ 47 :: r = path.data.toList) := by
  rcases own_from _ _ _ _ _ _ _ h with e | ⟨j, p, rfl, h2, h3⟩
  · cases e
  · simp only [pathsL, List.getElem?_map, Option.map_eq_some_iff] at h2
    obtain ⟨x, hx, rfl⟩ := h2
    rw [Nat.zero_add]
    obtain ⟨hi, rfl⟩ := List.getElem?_eq_some_iff.1 hx
    refine ⟨hi, ?_⟩
    rcases below_parts h3 with h4 | h4
    · exact .inl h4
    · refine .inr ⟨fun e => ?_, h4⟩
      have := congrArg List.length h4
      rw [e] at this
      simp at this
set_option maxRecDepth 100000 in
set_option maxHeartbeats 4000000 in
theorem owner_many (path : ByteArray) (A : Option Addr) (c : Nat) (l : List Md) (w : World) (hC : Cond w) (h : 30 < l.length) :
    Calls Tryz.prog 9 #[.slice A l.length c, .string path] w fun e w' => e = .returned (.bool true) ∧ Below w.heap.size w w' := by
  have KA := Lib.hid (alive_any w hC)
  have q1 : (30 : Int) < (l.length : Int) := by omega
  clear h hC
  go_enter Tryz.func9, Tryz.ntmps9
  go_wp2_with fail
  refine KA.out.mono ?_
  rintro e w1 ⟨rfl, hb⟩
  have HB := Lib.hid hb
  clear hb
  go_wp2_with fail
  go_ret
  exact ⟨rfl, HB.out⟩
set_option maxRecDepth 100000 in
set_option maxHeartbeats 4000000 in
theorem owner_no (path : ByteArray) (A : Option Addr) (c : Nat) (l : List Md) (w : World) (hC : Cond w) (hR : RM w w.heap.size A l) (hl : l.length ≤ 30) (hp : ∀ x ∈ l, x.1.size ≤ 140737488355328) (hpp : path.size ≤ 140737488355328) (hn : ownL path.data.toList (pathsL l) 0 none = none) :
    Calls Tryz.prog 9 #[.slice A l.length c, .string path] w fun e w' => e = .returned (.bool true) ∧ Below w.heap.size w w' := by
  have K1 := Lib.hid (owner_any path A c l w hR (by omega) hp)
  have K2 := Lib.hid (fun w1 (hb : Below w.heap.size w w1) => rowner_any path A c l w1 (hR.up hb) (by omega) hpp)
  rw [hn] at K1
  simp only [hn] at K2
  rw [show ownOut none = .tuple #[.int .i64 (-1), .string ⟨#[]⟩] from rfl] at K1 K2
  have HC := Lib.hid hC
  have q1 : ¬ (30 : Int) < (l.length : Int) := by omega
  have q2 : ¬ (l.length : Int) ≤ -1 := by omega
  clear hn hR hp hC
  go_enter Tryz.func9, Tryz.ntmps9
  go_wp2_with fail
  refine K1.out.mono ?_
  rintro e w1 ⟨rfl, hb1⟩
  have HB1 := Lib.hid hb1
  clear hb1 K1
  go_wp2_with fail
  refine (K2.out _ HB1.out).mono ?_
  rintro e w2 ⟨rfl, hb2⟩
  have HB2 := Lib.hid (HB1.out.trans (hb2.mono HB1.out.size))
  clear hb2 K2 HB1
  go_wp2_with fail
  refine (alive_any _ (HC.out.keep HB2.out)).mono ?_
  rintro e w3 ⟨rfl, hb3⟩
  have HB3 := Lib.hid (HB2.out.trans (hb3.mono HB2.out.size))
  clear hb3
  go_wp2_with fail
  go_ret
  exact ⟨rfl, HB3.out⟩
set_option maxRecDepth 100000 in
set_option maxHeartbeats 4000000 in
theorem owner_same (path : ByteArray) (A : Option Addr) (c : Nat) (l : List Md) (w : World) (hC : Cond w) (hR : RM w w.heap.size A l) (hl : l.length ≤ 30) (hp : ∀ x ∈ l, x.1.size ≤ 140737488355328) (hpp : path.size ≤ 140737488355328) (i n : Nat) (r : List UInt8) (hi : i < l.length) (hn : ownL path.data.toList (pathsL l) 0 none = some (i, n, r))
    (h1 : path.data.toList = l[i].1.data.toList) (h2 : r = []) :
    Calls Tryz.prog 9 #[.slice A l.length c, .string path] w fun e w' => e = .returned (.bool true) ∧ Below w.heap.size w w' := by
  have K1 := Lib.hid (owner_any path A c l w hR (by omega) hp)
  have K2 := Lib.hid (fun w1 (hb : Below w.heap.size w w1) => rowner_any path A c l w1 (hR.up hb) (by omega) hpp)
  rw [hn] at K1
  simp only [hn] at K2
  rw [show ownOut (some (i, n, r)) = .tuple #[.int .i64 (i : Int), .string ⟨r.toArray⟩] from rfl] at K1 K2
  have HC := Lib.hid hC
  have HRE := Lib.hid hR
  have q1 : ¬ (30 : Int) < (l.length : Int) := by omega
  have q2 : ¬ (l.length : Int) ≤ (i : Int) := by omega
  have q3 : ¬ (i : Int) < 0 := by omega
  have q4 : (i : Int) < (l.length : Int) := by omega
  subst h2
  have hd : (l[i].1.toList == path.toList) = true := by rw [beq_iff_eq, Go.ByteArray.toList_eq, Go.ByteArray.toList_eq]; exact h1.symm
  have hdp : l[i].1.toList = path.toList := by simpa using hd
  clear hn hR hp hC h1
  go_enter Tryz.func9, Tryz.ntmps9
  go_wp2_with fail
  refine K1.out.mono ?_
  rintro e w1 ⟨rfl, hb1⟩
  have HB1 := Lib.hid hb1
  clear hb1 K1
  go_wp2_with fail
  refine (K2.out _ HB1.out).mono ?_
  rintro e w2 ⟨rfl, hb2⟩
  have HB2 := Lib.hid (HB1.out.trans (hb2.mono HB1.out.size))
  clear hb2 K2 HB1
  obtain ⟨g, o, hA, hgl, c0, _, _, _⟩ := HRE.out.four i hi
  subst hA
  rw [← HB2.out.cell (p := ⟨g, o + i * 4, none⟩) hgl] at c0
  go_wp2_with fail
  refine (alive_any _ (HC.out.keep HB2.out)).mono ?_
  rintro e w3 ⟨rfl, hb3⟩
  have HB3 := Lib.hid (HB2.out.trans (hb3.mono HB2.out.size))
  clear hb3
  go_wp2_with fail
  go_ret
  exact ⟨rfl, HB3.out⟩
set_option maxRecDepth 100000 in
set_option maxHeartbeats 4000000 in
theorem owner_below (path : ByteArray) (A : Option Addr) (c : Nat) (l : List Md) (w : World) (hC : Cond w) (hR : RM w w.heap.size A l) (hl : l.length ≤ 30) (hp : ∀ x ∈ l, x.1.size ≤ 140737488355328) (hpp : path.size ≤ 140737488355328) (i n : Nat) (r : List UInt8) (hi : i < l.length) (hn : ownL path.data.toList (pathsL l) 0 none = some (i, n, r))
    (h1 : ¬ path.data.toList = l[i].1.data.toList) (h2 : l[i].1.data.toList ++ 47 :: r = path.data.toList) :
    Calls Tryz.prog 9 #[.slice A l.length c, .string path] w fun e w' => e = .returned (.bool true) ∧ Below w.heap.size w w' := by
  have K1 := Lib.hid (owner_any path A c l w hR (by omega) hp)
  have K2 := Lib.hid (fun w1 (hb : Below w.heap.size w w1) => rowner_any path A c l w1 (hR.up hb) (by omega) hpp)
  rw [hn] at K1
  simp only [hn] at K2
  rw [show ownOut (some (i, n, r)) = .tuple #[.int .i64 (i : Int), .string ⟨r.toArray⟩] from rfl] at K1 K2
  have HC := Lib.hid hC
  have HRE := Lib.hid hR
  have q1 : ¬ (30 : Int) < (l.length : Int) := by omega
  have q2 : ¬ (l.length : Int) ≤ (i : Int) := by omega
  have q3 : ¬ (i : Int) < 0 := by omega
  have q4 : (i : Int) < (l.length : Int) := by omega
  have hd : (l[i].1.toList == path.toList) = false := by rw [beq_eq_false_iff_ne, Go.ByteArray.toList_eq, Go.ByteArray.toList_eq]; exact fun e => h1 e.symm
  have hdp : ¬ l[i].1.toList = path.toList := by simpa using hd
  have hcat : l[i].1 ++ (⟨#[47]⟩ : ByteArray) ++ ⟨r.toArray⟩ = path := by
    apply ByteArray.ext; apply Array.ext'
    rw [join_bytes']; exact h2
  have hct : (l[i].1 ++ (⟨#[47]⟩ : ByteArray) ++ ⟨r.toArray⟩).toList = path.toList := by rw [hcat]
  have hsz := congrArg List.length h2
  have hrz : (⟨r.toArray⟩ : ByteArray).size = r.length := by simp [ByteArray.size]
  have l1 : l[i].1.size + 1 ≤ maxLen := by simp at hsz; unfold maxLen; omega
  have l3 : (l[i].1.size : Int) + 1 + (r.length : Int) ≤ 9223372036854775807 := by simp at hsz; omega
  clear hn hR hp hC h1 h2 hsz hcat
  go_enter Tryz.func9, Tryz.ntmps9
  go_wp2_with fail
  refine K1.out.mono ?_
  rintro e w1 ⟨rfl, hb1⟩
  have HB1 := Lib.hid hb1
  clear hb1 K1
  go_wp2_with fail
  refine (K2.out _ HB1.out).mono ?_
  rintro e w2 ⟨rfl, hb2⟩
  have HB2 := Lib.hid (HB1.out.trans (hb2.mono HB1.out.size))
  clear hb2 K2 HB1
  obtain ⟨g, o, hA, hgl, c0, _, _, _⟩ := HRE.out.four i hi
  subst hA
  rw [← HB2.out.cell (p := ⟨g, o + i * 4, none⟩) hgl] at c0
  go_wp2_with fail
  refine (alive_any _ (HC.out.keep HB2.out)).mono ?_
  rintro e w3 ⟨rfl, hb3⟩
  have HB3 := Lib.hid (HB2.out.trans (hb3.mono HB2.out.size))
  clear hb3
  go_wp2_with fail
  go_ret
  exact ⟨rfl, HB3.out⟩
/-- the law, at a slice that holds modules -/
theorem law_owner (path : ByteArray) (A : Option Addr) (c : Nat) (l : List Md) (w : World) (hC : Cond w) (hR : RM w w.heap.size A l) (hp : ∀ x ∈ l, x.1.size ≤ 140737488355328) (hpp : path.size ≤ 140737488355328) :
    Calls Tryz.prog 9 #[.slice A l.length c, .string path] w fun e w' => e = .returned (.bool true) ∧ Below w.heap.size w w' := by
  by_cases h : 30 < l.length
  · exact owner_many path A c l w hC h
  · cases hn : ownL path.data.toList (pathsL l) 0 none with
    | none => exact owner_no path A c l w hC hR (by omega) hp hpp hn
    | some q =>
      obtain ⟨i, n, r⟩ := q
      obtain ⟨hi, ⟨h1, h2⟩ | ⟨h1, h2⟩⟩ := own_parts hn
      · exact owner_same path A c l w hC hR (by omega) hp hpp i n r hi hn h1 h2
      · exact owner_below path A c l w hC hR (by omega) hp hpp i n r hi hn h1 h2
end Go.Proofs.YtmmghdicjpfdoaaGreatDoor
