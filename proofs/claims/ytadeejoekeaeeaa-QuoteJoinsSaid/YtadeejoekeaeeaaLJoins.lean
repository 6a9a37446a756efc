/-
  The literal of a concatenation consists of both literals: the law QuoteJoins. No condition.
-/
import Derived.Test.YtadeejoekeaeeaaLLabels
import Derived.Deep.RegionWith
namespace Go.Proofs.Ytadeejoekeaeeaa
open Go.RowKit
set_option linter.unusedSimpArgs false
set_option linter.unusedVariables false
theorem quoteL_app (a b : List UInt8) : quoteL (a ++ b) = (quoteL a).take ((quoteL a).length - 1) ++ (quoteL b).drop 1 := by
  rw [show quoteL b = [34] ++ (body b ++ [34]) by simp [quoteL]]
  rw [List.drop_left' (by rfl)]
  rw [show quoteL a = ([34] ++ body a) ++ [34] by simp [quoteL]]
  rw [List.length_append, List.length_singleton, Nat.add_sub_cancel, List.take_left' rfl]
  simp [quoteL, body_app]
theorem joins_eq {a b P Q R : ByteArray} (hP : quoteL a.data.toList = P.data.toList) (hQ : quoteL b.data.toList = Q.data.toList) (hR : quoteL (a ++ b).data.toList = R.data.toList) :
    R = P.extract 0 (P.size - 1) ++ Q.extract 1 Q.size := by
  apply ByteArray.ext
  apply Array.ext'
  have e1 : (a ++ b).data.toList = a.data.toList ++ b.data.toList := by simp
  have e2 : (P.extract 0 (P.size - 1) ++ Q.extract 1 Q.size).data.toList = (P.extract 0 (P.size - 1)).data.toList ++ (Q.extract 1 Q.size).data.toList := by simp
  have ef : ∀ (s : ByteArray) (a : Nat), (s.extract 0 a).data.toList = s.data.toList.take a := fun s a => by simp
  rw [← hR, e1, e2, quoteL_app, hP, hQ, Lib.extract_to_end, ef]
  simp
set_option maxRecDepth 100000 in
set_option maxHeartbeats 2000000 in
theorem law_joins (a b : ByteArray) (w : World) : Calls Try.prog 10 #[.string a, .string b] w fun e w' => e = .returned (.bool true) ∧ Below w.heap.size w w' := by
  by_cases ha : a.size ≤ 500
  · by_cases hb : b.size ≤ 500
    · obtain ⟨P, hP⟩ : ∃ P : ByteArray, quoteL a.data.toList = P.data.toList := ⟨⟨(quoteL a.data.toList).toArray⟩, rfl⟩
      obtain ⟨Q, hQ⟩ : ∃ Q : ByteArray, quoteL b.data.toList = Q.data.toList := ⟨⟨(quoteL b.data.toList).toArray⟩, rfl⟩
      obtain ⟨R, hR⟩ : ∃ R : ByteArray, quoteL (a ++ b).data.toList = R.data.toList := ⟨⟨(quoteL (a ++ b).data.toList).toArray⟩, rfl⟩
      have c1 := quote_at a P (by omega) hP
      have c2 := quote_at b Q (by omega) hQ
      have c3 := quote_at (a ++ b) R (by simp; omega) hR
      have hE := joins_eq hP hQ hR
      have sP : 2 ≤ P.size ∧ P.size ≤ 2002 := by
        have h1 := quoteL_len a.data.toList; have h2 := body_len a.data.toList; rw [hP] at h1; simp at h1 h2; omega
      have sQ : 2 ≤ Q.size ∧ Q.size ≤ 2002 := by
        have h1 := quoteL_len b.data.toList; have h2 := body_len b.data.toList; rw [hQ] at h1; simp at h1 h2; omega
      obtain ⟨p1, p2⟩ := sP
      obtain ⟨q1, q2⟩ := sQ
      have C1 := Lib.hid c1; have C2 := Lib.hid c2; have C3 := Lib.hid c3
      obtain ⟨n, hn⟩ : ∃ n, P.size = n + 1 := ⟨P.size - 1, by omega⟩
      rw [hn, Nat.add_sub_cancel] at hE
      have e1 : IntKind.i64.wrap ((P.size : Int) - 1) = (n : Int) := by simp [IntKind.wrap, IntKind.bits, IntKind.signed]; omega
      have e1' : (P.size : Int) - 1 = (n : Int) := by omega
      have nle : n ≤ P.size := by omega
      have nle2 : n ≤ 2002 := by omega
      subst hE
      clear c1 c2 c3 hP hQ hR hn
      have NLE : (n : Int) ≤ (P.size : Int) := by omega
      have e2 : IntKind.i64.wrap (n : Int) = (n : Int) := by simp [IntKind.wrap, IntKind.bits, IntKind.signed]; omega
      have k1 : (1 : Int) ≤ (Q.size : Int) := by omega
      have z1 : ¬ 9223372036854775807 < a.size + b.size := by omega
      have z2 : ¬ 9223372036854775807 < n + (Q.size - 1) := by omega
      have j1 : ∀ w : World, (Instr.slice 9 (.string P) none (some (.int .i64 (n : Int))) none).run Try.prog w = .ok (.string (P.extract 0 n)) w := fun w => by go_simp
      go_enter Try.func10, Try.ntmps10
      go_wp2_with fail
      refine (C1.out _).mono ?_
      rintro e w1 ⟨rfl, hb1⟩
      go_wp2_with fail
      refine (C2.out _).mono ?_
      rintro e w2 ⟨rfl, hb2⟩
      have B2 := hb1.trans (hb2.mono hb1.size)
      clear hb1 hb2
      go_wp2_with fail
      go_region_with (first | (go_at_call 13; ((with_reducible refine (C3.out _).mono ?_)); rintro e w' ⟨rfl, hbN⟩) | (go_at_call 12; ((with_reducible refine (alive_any _).mono ?_)); rintro e w'' ⟨rfl, hbM⟩))
      all_goals
        have h1 := B2.drew.trans (hbN.mono B2.drew.size)
        have HB := Lib.hid (h1.trans (hbM.mono h1.size))
        clear hbN hbM h1
        go_wp2_with fail
        go_ret
        exact ⟨rfl, HB.out⟩
    · go_enter Try.func10, Try.ntmps10
      go_wp2_with fail
      refine (alive_any _).mono ?_
      rintro e w3 ⟨rfl, hb3⟩
      have HB := Lib.hid hb3
      clear hb3
      go_wp2_with fail
      go_ret
      exact ⟨rfl, HB.out⟩
  · go_enter Try.func10, Try.ntmps10
    go_wp2_with fail
    refine (alive_any _).mono ?_
    rintro e w3 ⟨rfl, hb3⟩
    have HB := Lib.hid hb3
    clear hb3
    go_wp2_with fail
    go_ret
    exact ⟨rfl, HB.out⟩
end Go.Proofs.Ytadeejoekeaeeaa
