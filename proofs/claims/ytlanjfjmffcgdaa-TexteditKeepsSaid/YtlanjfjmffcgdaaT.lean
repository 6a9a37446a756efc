/-
  The numbers of lines: what the closure of compare returns. No condition but on the cells.
-/
import Derived.Test.YtlanjfjmffcgdaaS
import Derived.WideLaws
namespace Go.Proofs.Ytlanjfjmffcgdaa
open Go.RowKit
set_option linter.unusedSimpArgs false
set_option linter.unusedVariables false
/-- the map's entries: the keys in their order, each with its place -/
def entsF (i : Nat) : List ByteArray → List MapEntry
  | [] => []
  | k :: t => ⟨.string k, .int .i64 (i : Int), i⟩ :: entsF (i + 1) t
def fidx (s : ByteArray) (i : Nat) : List ByteArray → Option Nat
  | [] => none
  | k :: t => if s = k then some i else fidx s (i + 1) t
theorem ents_len : ∀ (i : Nat) (ks : List ByteArray), (entsF i ks).length = ks.length
  | _, [] => rfl
  | i, k :: t => by simp [entsF, ents_len (i + 1) t]
theorem ents_snoc : ∀ (i : Nat) (ks : List ByteArray) (s : ByteArray), entsF i (ks ++ [s]) = entsF i ks ++ [⟨.string s, .int .i64 ((i + ks.length : Nat) : Int), i + ks.length⟩]
  | i, [], s => rfl
  | i, k :: t, s => by
    have e : i + 1 + t.length = i + (k :: t).length := by simp; omega
    simp only [List.cons_append, entsF, ents_snoc (i + 1) t s, e]
theorem find_ents (s : ByteArray) : ∀ (i : Nat) (ks : List ByteArray), Instr.findNow .string (.string s) (entsF i ks) i = some ((fidx s i ks).map fun (j : Nat) => ((j, Value.int .i64 (j : Int)) : Nat × Value))
  | _, [] => rfl
  | i, k :: t => by
    unfold entsF Instr.findNow
    simp only [Instr.sameNow]
    by_cases h : s = k
    · subst h
      have e : (s == s) = true := by show (s.data == s.data) = true; simp
      rw [e]
      simp [fidx]
    · have e : (s == k) = false := by show (s.data == k.data) = false; rw [beq_eq_false_iff_ne]; intro h'; exact h (ByteArray.ext h')
      rw [e]
      simp only [find_ents s (i + 1) t, fidx, if_neg h]
theorem fidx_lt (s : ByteArray) : ∀ (i : Nat) (ks : List ByteArray) (j : Nat), fidx s i ks = some j → j < i + ks.length
  | _, [], _, h => by simp [fidx] at h
  | i, k :: t, j, h => by
    unfold fidx at h
    split at h
    · injection h with h; subst h; simp
    · have := fidx_lt s (i + 1) t j h; simp; omega
theorem run_check9 (em : Bool) (key : ByteArray) (w : World) : (Instr.checkKey em 10000 9 (.string key)).run Try.prog w = .ok () w := by
  rw [show (10000 : Nat) = 9999 + 1 from rfl, Instr.checkKey, Sem.run_bind, run_underlying Try.underlying9, Result.andThen_ok]; rfl
theorem run_find9 {key : ByteArray} {es : List MapEntry} {r : Option (Nat × Value)} (w : World) (hf : Instr.findNow .string (.string key) es 0 = some r) : (Instr.findKey 9 (.string key) es).run Try.prog w = .ok r w := by
  simp only [Instr.findKey, Sem.run_bind, run_underlying Try.underlying9, Result.andThen_ok, hf]; rfl
theorem look63 {w : World} {b : Nat} {es : List MapEntry} {clock : Nat} (h : MP w b es clock) (key : ByteArray) (i : Nat) (v : Value) (hf : Instr.findNow .string (.string key) es 0 = some (some (i, v))) :
    (Instr.lookup 63 (.map (some b)) (.string key) true).run Try.prog w = .ok (.tuple #[v, .bool true]) w := by
  unfold MP at h
  simp only [Instr.lookup, Sem.run_bind, run_underlying Try.underlying63, Result.andThen_ok, run_getObj h, Sem.run_pure, run_check9, run_find9 _ hf]
  rfl
theorem look63n {w : World} {b : Nat} {es : List MapEntry} {clock : Nat} (h : MP w b es clock) (key : ByteArray) (hf : Instr.findNow .string (.string key) es 0 = some none) :
    (Instr.lookup 63 (.map (some b)) (.string key) true).run Try.prog w = .ok (.tuple #[.int .i64 0, .bool false]) w := by
  unfold MP at h
  simp only [Instr.lookup, Sem.run_bind, run_underlying Try.underlying63, Result.andThen_ok, run_getObj h, Sem.run_pure, run_check9, run_find9 _ hf, Try.zeroValue3]
  rfl
theorem upd63 {w : World} {b : Nat} {es : List MapEntry} {clock : Nat} (h : MP w b es clock) (key : ByteArray) (v : Value) (hf : Instr.findNow .string (.string key) es 0 = some none) :
    (Instr.mapUpdate 63 (.map (some b)) (.string key) v).run Try.prog w = .ok () (putMap w b (es ++ [⟨.string key, v, clock⟩]) (clock + 1)) := by
  unfold MP at h
  simp only [Instr.mapUpdate, Sem.run_bind, run_underlying Try.underlying63, Result.andThen_ok, run_getObj h, run_check9, run_find9 _ hf]
  simp only [List.push_toArray]
  unfold setObj
  simp only [Sem.run, h]
  rfl
theorem gm_step {w wr w1 : World} {m : Nat} {r : Option Nat} (h : w.grownBy wr (some m)) (g : wr.grownBy w1 r) (hr : ∀ j, r = some j → w.heap.size ≤ j ∨ j = m) : w.grownBy w1 (some m) :=
  ⟨g.os.trans h.os, g.tape.trans h.tape, g.output.trans h.output, Nat.le_trans h.size g.size, fun i hi hn => (g.block i (Nat.lt_of_lt_of_le hi h.size) (by
    intro e
    rcases hr i e.symm with h1 | h1
    · omega
    · exact hn (by rw [h1]))).trans (h.block i hi hn)⟩
/-- the numbers of lines, given the keys so far -/
def numF : List ByteArray → List ByteArray → List Int × List ByteArray
  | [], ks => ([], ks)
  | s :: t, ks => match fidx s 0 ks with
    | some j => ((j : Int) :: (numF t ks).1, (numF t ks).2)
    | none => ((ks.length : Int) :: (numF t (ks ++ [s])).1, (numF t (ks ++ [s])).2)
theorem numF_1 {s : ByteArray} {t ks : List ByteArray} {j : Nat} (h : fidx s 0 ks = some j) : numF (s :: t) ks = ((j : Int) :: (numF t ks).1, (numF t ks).2) := by simp only [numF, h]
theorem numF_2 {s : ByteArray} {t ks : List ByteArray} (h : fidx s 0 ks = none) : numF (s :: t) ks = ((ks.length : Int) :: (numF t (ks ++ [s])).1, (numF t (ks ++ [s])).2) := by simp only [numF, h]
def ints (xs : List Int) : List Value := xs.map (Value.int .i64)
theorem Try.info3 : (Try.prog.info? 3).map (fun i => (i.zero, i.size, i.bytes)) = some (some (.int .i64 0), 1, 8) := by kernel_rfl
def NumP (w : World) (m : Nat) (R : List Int × List ByteArray) (e : Ending) (w' : World) : Prop :=
  ∃ v, e = .returned v ∧ w'.ownsRow w.heap.size 3 1 v R.1.length (ints R.1) ∧ MP w' m (entsF 0 R.2) R.2.length ∧ w.grownBy w' (some m)
set_option maxRecDepth 100000 in
set_option maxHeartbeats 8000000 in
theorem numbered_any (ga c nb m : Nat) (ls ks : List ByteArray) (hl : ls.length ≤ 1000) (hk : ks.length ≤ 1000) (w : World) (hls : ∀ j (h : j < ls.length), w.cell? ⟨ga, j, none⟩ = some (.string ls[j]))
    (hgm : ga ≠ m) (hnm : nb ≠ m) (hnb : w.cell? ⟨nb, 0, none⟩ = some (.map (some m))) (hM : MP w m (entsF 0 ks) ks.length) :
    Calls Try.prog 35 #[.slice (some ⟨ga, 0, none⟩) ls.length c, .pointer (some ⟨nb, 0, none⟩)] w (NumP w m (numF ls ks)) := by
  obtain ⟨i0, hi, hz0, hz1, hz2⟩ := info_parts Try.info3
  have HR : Hid (([] : List Int) ++ (numF (ls.drop 0) ks).1 = (numF ls ks).1 ∧ (numF (ls.drop 0) ks).2 = (numF ls ks).2) := Lib.hid (by simp)
  have HLS := Lib.hid hls
  have HNB := Lib.hid hnb
  have hml := hM.lt
  have HM := Lib.hid hM
  generalize numF ls ks = R at *
  clear hls hnb hM
  go_enter Try.func35, Try.ntmps35
  go_wp2_with fail
  go_loopw [4, 6, 7, 8, 11] (fun v _ _ _ i wr => ∃ (k : Nat) (acc : List Int) (kk : List ByteArray), i = .int .i64 (k : Int) ∧ k ≤ ls.length ∧ acc.length ≤ k ∧ kk.length ≤ ks.length + k ∧ Hid (acc ++ (numF (ls.drop k) kk).1 = R.1 ∧ (numF (ls.drop k) kk).2 = R.2) ∧ Hid (wr.ownsRow w.heap.size 3 1 v acc.length (ints acc)) ∧ Hid (MP wr m (entsF 0 kk) kk.length) ∧ Hid (w.grownBy wr (some m))) (fun _ _ _ _ i _ => ls.length - (intOf i).toNat)
  case atStart => exact ⟨0, [], ks, rfl, by omega, by simp, by omega, HR, Lib.hid (World.ownsRow_nil _ _ _ _), HM, Lib.hid ⟨rfl, rfl, rfl, Nat.le_refl _, fun _ _ _ => rfl⟩⟩
  case round =>
    obtain ⟨k, acc, kk, rfl, hkl, hal, hkk, HS, HO, HMr, HG⟩ := hrel
    by_cases hlt : k < ls.length
    · have c0 : wr.cell? ⟨ga, k, none⟩ = some (.string ls[k]) := cellK (HLS.out k hlt) HG.out hgm
      have c1 : wr.cell? ⟨nb, 0, none⟩ = some (.map (some m)) := cellK HNB.out HG.out hnm
      rw [List.drop_eq_getElem_cons hlt] at HS
      generalize ls[k] = s at *
      have q8 : (k : Int) < (ls.length : Int) := by omega
      have hw := HG.out.size
      cases hf : fidx s 0 kk with
      | some j =>
        have hj := fidx_lt s 0 kk j hf
        rw [numF_1 hf] at HS
        have hlk := look63 HMr.out s j (.int .i64 (j : Int)) (by rw [find_ents, hf]; rfl)
        have HS2 : Hid ((acc ++ [(j : Int)]) ++ (numF (ls.drop (k + 1)) kk).1 = R.1 ∧ (numF (ls.drop (k + 1)) kk).2 = R.2) := Lib.hid ⟨by rw [← HS.out.1]; simp, HS.out.2⟩
        clear HS hf
        go_wp2_with (at_builtin; refine wpList_append_own _ rfl _ _ 53 rfl w.heap.size 3 i0 (.int .i64 0) 1 8 Try.underlying53 hi hz0 hz1 hz2 rfl (by decide) _ _ _ rfl (HO.out.alloc _) ⟨wr.heap.size, 0, none⟩ 1 1 [.int .i64 (j : Int)] rfl rfl ?c1 ?c2 ?c3 ?c4 ?c5 ?_)
        case c1 => exact cells_new1 _ _ _
        case c2 => intro u hu; simp at hu; subst hu; rfl
        case c3 => unfold maxLen; omega
        case c4 => omega
        case c5 => simp; omega
        intro v' w1 hown1 hgrow _
        have hrow := fun j hj => (HO.out.lt j hj).1
        have G1 : Hid (w.grownBy w1 (some m)) := Lib.hid (gm_step (gm_step HG.out (gb_below (r := none) ((Below.refl _ _).alloc (Nat.le_refl _) _)) (fun j hj => by cases hj)) hgrow (fun j hj => .inl (hrow j hj)))
        have M1 : Hid (MP w1 m (entsF 0 kk) kk.length) := Lib.hid ((HMr.out.below ((Below.refl _ _).alloc (Nat.le_refl _) _)).grown hgrow (fun e => by have := hrow _ e.symm; omega))
        have O1 : Hid (w1.ownsRow w.heap.size 3 1 v' (acc ++ [(j : Int)]).length (ints (acc ++ [(j : Int)]))) := Lib.hid (by rw [List.length_append]; simpa [ints] using hown1)
        have hal2 : (acc ++ [(j : Int)]).length ≤ k + 1 := by simp; omega
        clear hown1 hgrow hrow HO HMr HG hlk c0 c1
        generalize acc ++ [(j : Int)] = acc' at *
        go_wp2_with fail
        go_roundw
        case rel => exact ⟨k + 1, acc', kk, by go_num, by omega, hal2, by omega, HS2, O1, M1, G1⟩
        case measure => simp [intOf]; omega
      | none =>
        rw [numF_2 hf] at HS
        have hlk := look63n HMr.out s (by rw [find_ents, hf]; rfl)
        have hlen : (Builtin.len_ #[63] 3 #[.map (some m)]).run Try.prog wr = .ok (.int .i64 (kk.length : Int)) wr := by
          rw [run_len_map (P := Try.prog) wr 63 3 m (entsF 0 kk).toArray kk.length (by kernel_rfl) HMr.out]
          simp [goInt, ents_len]
        have hup := upd63 HMr.out s (.int .i64 (kk.length : Int)) (by rw [find_ents, hf]; rfl)
        have HS2 : Hid ((acc ++ [(kk.length : Int)]) ++ (numF (ls.drop (k + 1)) (kk ++ [s])).1 = R.1 ∧ (numF (ls.drop (k + 1)) (kk ++ [s])).2 = R.2) := Lib.hid ⟨by rw [← HS.out.1]; simp, HS.out.2⟩
        have HE : Hid (entsF 0 kk ++ [⟨.string s, .int .i64 (kk.length : Int), kk.length⟩] = entsF 0 (kk ++ [s])) := Lib.hid (by rw [ents_snoc]; simp)
        rw [HE.out] at hup
        have M2 : Hid (MP (putMap wr m (entsF 0 (kk ++ [s])) (kk.length + 1)) m (entsF 0 (kk ++ [s])) (kk ++ [s]).length) := Lib.hid (by rw [List.length_append]; exact putMap_mp HMr.out.lt _ _)
        have O2 := Lib.hid (own_kept HO.out (putMap_gb wr m (entsF 0 (kk ++ [s])) (kk.length + 1)) hml)
        have G2 := Lib.hid (gm_step HG.out (putMap_gb wr m (entsF 0 (kk ++ [s])) (kk.length + 1)) (fun j hj => by injection hj with hj; exact .inr hj.symm))
        have hkk2 : (kk ++ [s]).length ≤ ks.length + (k + 1) := by simp; omega
        have hw2 : w.heap.size ≤ (putMap wr m (entsF 0 (kk ++ [s])) (kk.length + 1)).heap.size := G2.out.size
        have HKL : Hid (kk.length ≤ 2000) := Lib.hid (by omega)
        clear HS hf HE
        generalize kk ++ [s] = kk2 at *
        generalize entsF 0 kk = ES at *
        generalize kk.length = q at *
        generalize putMap wr m (entsF 0 kk2) (q + 1) = w2 at *
        go_wp2_with (at_builtin; refine wpList_append_own _ rfl _ _ 53 rfl w.heap.size 3 i0 (.int .i64 0) 1 8 Try.underlying53 hi hz0 hz1 hz2 rfl (by decide) _ _ _ rfl (O2.out.alloc _) ⟨w2.heap.size, 0, none⟩ 1 1 [.int .i64 (q : Int)] rfl rfl ?c1 ?c2 ?c3 ?c4 ?c5 ?_)
        case c1 => exact cells_new1 _ _ _
        case c2 => intro u hu; simp at hu; subst hu; rfl
        case c3 => unfold maxLen; omega
        case c4 => omega
        case c5 => simp; omega
        intro v' w1 hown1 hgrow _
        have hrow := fun j hj => (O2.out.lt j hj).1
        have G1 : Hid (w.grownBy w1 (some m)) := Lib.hid (gm_step (gm_step G2.out (gb_below (r := none) ((Below.refl _ _).alloc (Nat.le_refl _) _)) (fun j hj => by cases hj)) hgrow (fun j hj => .inl (hrow j hj)))
        have M1 : Hid (MP w1 m (entsF 0 kk2) kk2.length) := Lib.hid ((M2.out.below ((Below.refl _ _).alloc (Nat.le_refl _) _)).grown hgrow (fun e => by have := hrow _ e.symm; omega))
        have O1 : Hid (w1.ownsRow w.heap.size 3 1 v' (acc ++ [(q : Int)]).length (ints (acc ++ [(q : Int)]))) := Lib.hid (by rw [List.length_append]; simpa [ints] using hown1)
        have hal2 : (acc ++ [(q : Int)]).length ≤ k + 1 := by simp; omega
        clear hown1 hgrow hrow O2 M2 G2 hlk c0 c1 hup hlen HO HMr HG
        generalize acc ++ [(q : Int)] = acc' at *
        go_wp2_with fail
        go_roundw
        case rel => exact ⟨k + 1, acc', kk2, by go_num, by omega, hal2, by omega, HS2, O1, M1, G1⟩
        case measure => simp [intOf]; omega
    · obtain rfl : k = ls.length := by omega
      have HX : Hid (acc = R.1 ∧ kk = R.2) := Lib.hid (by have := HS.out; rw [List.drop_eq_nil_of_le (Nat.le_refl _)] at this; simpa [numF] using this)
      rw [HX.out.1] at HO
      rw [HX.out.2] at HMr
      clear HS
      go_wp2_with fail
      go_ret
      exact ⟨_, rfl, HO.out, HMr.out, HG.out⟩
