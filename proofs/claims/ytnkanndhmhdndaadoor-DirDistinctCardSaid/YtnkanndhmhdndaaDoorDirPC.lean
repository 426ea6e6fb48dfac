/-
  Walk of Parse of package dir (the program). Condition: the tables of words lie in memory (Wds).
-/
import Derived.Test.YtnkanndhmhdndaaDoorDirPB
namespace Go.Proofs.YtnkanndhmhdndaaDoor.DirW
open Go.ChangeShapes Go.WideShapes Go.ChangeAt Go.RowKit
open PairW StrW DirP
set_option maxRecDepth 100000 in
set_option maxHeartbeats 1000000 in
theorem pparse_at (s : ByteArray) (d l e0 : Int) (w : World) (HT : Hid (Wds w)) (H : Hid (Prs s d l e0)) :
    Calls Tryd.prog 22 #[.string s] w fun e w' => e = .returned (.tuple #[.int .i64 d, .int .i64 l, .int .i64 e0]) ∧ Own w w' := by
  go_enter Tryd.func22, Tryd.ntmps22
  go_wp2
  go_loopw [5] (fun vi wr => ∃ k : Nat, vi = .int .i64 (k : Int) ∧ k ≤ 9 ∧ Own w wr ∧ ∀ p, p < 3 * k → pN p ≠ s) (fun vi _ => 9 - (intOf vi).toNat)
  case atStart => exact ⟨0, rfl, by decide, Own.refl w, fun p h => absurd h (by omega)⟩
  case round =>
    obtain ⟨k, rfl, hk, q, hno⟩ := hrel
    have HNO := Lib.hid hno
    have HQ := Lib.hid q
    clear hno q
    by_cases hlt : k < 9
    · have c1 : (k : Int) ≤ 8 := by omega
      generalize wr = wa at *
      go_wp2
      go_loopw [6] (fun vj wr => ∃ j : Nat, vj = .int .i64 ((j : Int) - 1) ∧ j ≤ 3 ∧ Own w wr ∧ ∀ p, p < 3 * k + j → pN p ≠ s) (fun vj _ => 3 - ((intOf vj) + 1).toNat)
      case atStart => exact ⟨0, rfl, by decide, HQ.out, HNO.out⟩
      case round =>
        obtain ⟨j, rfl, hj, q2, hno2⟩ := hrel
        have HNO2 := Lib.hid hno2
        have HQ2 := Lib.hid q2
        clear hno2 q2
        by_cases hlj : j < 3
        · have c2 : (j : Int) - 1 ≤ 1 := by omega
          have e1 : pD (3 * k + j) = k := by unfold pD; omega
          have e2 : pL (3 * k + j) = (j : Int) - 1 := by unfold pL; omega
          obtain ⟨x, hx⟩ : ∃ x, pN (3 * k + j) = x := ⟨_, rfl⟩
          have HN := Lib.hid (show chk k ((j : Int) - 1) = 0 ∧ namV k ((j : Int) - 1) = x by
            rw [← hx, pN, e1, e2]
            exact ⟨if_pos (by omega), if_pos (by omega)⟩)
          generalize wr = wb at *
          by_cases e : x = s
          · obtain ⟨p1, p2, p3⟩ := prs_hit H.out (p := 3 * k + j) (by omega) (hx.trans e)
            rw [e1] at p1
            rw [e2] at p2
            subst e
            have d1 : (x.toList == x.toList) = true := beq_self_eq_true _
            clear e1 e2 hx H
            go_wp2_with (go_at_call 20; with_reducible refine (pname_at _ _ 0 x _ (Lib.hid (HT.out.own HQ2.out)) HN).mono ?_; rintro e w2 ⟨rfl, hg⟩; replace HQ2 := Lib.hid (HQ2.out.trans hg); clear hg)
            go_ret3
            exact ⟨by rw [p1, p2, p3]; rfl, HQ2.out⟩
          · have d1 := str_ne e
            have HX := Lib.hid hx
            have HE := Lib.hid e
            have i1 : IntKind.i64.wrap ((j : Int) - 1 + 1) = ((j + 1 : Nat) : Int) - 1 := by rw [IntKind.wrap_i64]; omega
            clear e1 e2 hx e
            go_wp2_with (go_at_call 20; with_reducible refine (pname_at _ _ 0 x _ (Lib.hid (HT.out.own HQ2.out)) HN).mono ?_; rintro e w2 ⟨rfl, hg⟩; replace HQ2 := Lib.hid (HQ2.out.trans hg); clear hg)
            go_roundw
            case rel => exact ⟨j + 1, by first | go_num | (congr 1; omega), hlj, HQ2.out, fun p hp => by
              by_cases ep : p = 3 * k + j
              · rw [ep, HX.out]; exact HE.out
              · exact HNO2.out p (by omega)⟩
            case measure => simp [intOf]; omega
        · obtain rfl : j = 3 := by omega
          have i1 : IntKind.i64.wrap ((k : Int) + 1) = ((k + 1 : Nat) : Int) := by rw [IntKind.wrap_i64]; omega
          clear HNO HQ
          generalize wr = wb at *
          go_wp2
          go_roundw
          case rel => exact ⟨k + 1, by first | go_num | (congr 1; omega), hlt, HQ2.out, fun p hp => HNO2.out p (by omega)⟩
          case measure => simp [intOf]; omega
    · obtain rfl : k = 9 := by omega
      obtain ⟨rfl, rfl, rfl⟩ := prs_none H.out fun p hp => HNO.out p (by omega)
      clear H
      go_wp2
      go_ret3
      exact ⟨rfl, HQ.out⟩
end Go.Proofs.YtnkanndhmhdndaaDoor.DirW
