/-
  Walks of the small helpers of the statements about angle, and of the chapter's examples (awake): it returns true. Condition: the table of sines lies in memory (Tab).
-/
import Derived.Test.YtcchenfagkohdaaDoorAngleE
import Derived.Test.YtcchenfagkohdaaDoorAngleF
import Derived.Test.YtcchenfagkohdaaDoorAngleLen
namespace Go.Proofs.YtcchenfagkohdaaDoor.AngW
open Go.ChangeShapes Go.WideShapes Go.ChangeAt Go.RowKit
open NumP NumW AngP

theorem between_yes (a b s d : Int) (w : World) (H : Hid (betV a b s = d ∧ betE a b s = 0)) :
    Calls Tryd.prog 24 #[.int .i64 a, .int .i64 b, .int .i64 s, .int .i64 d] w fun e w' => e = .returned (.bool true) ∧ w = w' := by
  go_enter Tryd.func24, Tryd.ntmps24
  go_wp2_with (go_at_call 18; refine (bet_at _ _ _ d 0 _ H).mono ?_; rintro e w' ⟨rfl, rfl⟩)
  go_ret
  exact ⟨rfl, rfl⟩
set_option maxHeartbeats 800000 in
theorem turned_yes (x y a u v : Int) (w : World) (H : Hid (turU x y a = u ∧ turV x y a = v ∧ turE x y = 0)) (hT : Tab w) :
    Calls Tryd.prog 22 #[.int .i64 x, .int .i64 y, .int .i64 a, .int .i64 u, .int .i64 v] w fun e w' => e = .returned (.bool true) ∧ Grown w w' := by
  go_enter Tryd.func22, Tryd.ntmps22
  go_wp2_with (go_at_call 20; refine (tur_at _ _ _ u v 0 _ H hT).mono ?_; rintro e w1 ⟨rfl, hg⟩; have HG := Lib.hid hg; clear hg)
  go_ret
  exact ⟨rfl, HG.out.alloc _ _⟩
set_option maxHeartbeats 800000 in
theorem near_yes (n m : Int) (w : World) (H : Hid (nearOk n m)) (hn : 0 ≤ n ∧ n ≤ 68719476736) (hm : 0 ≤ m ∧ m ≤ 68719476736) :
    Calls Tryd.prog 23 #[.int .i64 n, .int .i64 m] w fun e w' => e = .returned (.bool true) ∧ w = w' := by
  have h := H.out
  unfold nearOk at h
  by_cases c : m - n - 9 ≤ 0
  · clear h
    go_enter Tryd.func23, Tryd.ntmps23
    go_wp2
    go_ret
    exact ⟨rfl, rfl⟩
  · have h2 := h.resolve_left c
    obtain ⟨h3, h4⟩ := h2
    have h5 : 0 ≤ (m - n - 9) * (m - n - 9) := sq_nonneg _
    clear h
    go_enter Tryd.func23, Tryd.ntmps23
    go_wp2
    go_ret
    first | exact ⟨rfl, rfl⟩ | exact ⟨ret_bool (decide_eq_true (by omega)), rfl⟩

theorem ax_n1 : (-257 : Int) % 256 = 255 := by decide
theorem ax_n2 : (1000 : Int) % 256 = 232 := by decide
theorem ax_s1 : sinV 8 = 3196 := by decide +kernel
theorem ax_s2 : sinV (-8) = -3196 := by decide +kernel
theorem ax_c1 : cosV 8 = 16069 := by decide +kernel
theorem ax_m1 : (-64 : Int) % 256 = 192 := by decide
theorem ax_m2 : (- -3 : Int) % 256 = 3 := by decide
theorem ax_b1 : betV 250 4 64 = 10 ∧ betE 250 4 64 = 0 := by decide
theorem ax_b2 : betV 0 128 64 = 128 ∧ betE 0 128 64 = 0 := by decide
theorem ax_b3 : betV 0 128 192 = -128 ∧ betE 0 128 192 = 0 := by decide
theorem ax_b4 : betV 64 192 64 = -128 ∧ betE 64 192 64 = 0 := by decide
theorem ax_b5 : betV 192 64 64 = 128 ∧ betE 192 64 64 = 0 := by decide
theorem ax_b6 : betV 138 10 64 = -128 ∧ betE 138 10 64 = 0 := by decide
theorem ax_t1 : turU 3 4 64 = 4 ∧ turV 3 4 64 = -3 ∧ turE 3 4 = 0 := by decide +kernel
theorem ax_t2 : turU 100 0 16 = 92 ∧ turV 100 0 16 = -38 ∧ turE 100 0 = 0 := by decide +kernel
theorem ax_t3 : turU 1000 0 32 = 707 ∧ turV 1000 0 32 = -707 ∧ turE 1000 0 = 0 := by decide +kernel

set_option maxRecDepth 100000 in
set_option maxHeartbeats 2000000 in
theorem awake_any (w : World) (hT : Tab w) : Calls Tryd.prog 13 #[] w fun e w' => e = .returned (.bool true) ∧ Grown w w' := by
  have hR := Grown.refl w
  have HR := Lib.hid hR
  clear hR
  go_enter Tryd.func13, Tryd.ntmps13
  go_wp2_with (first
    | (go_at_call 11; (first | (with_reducible refine (norm_at (-257) 255 _ (Lib.hid ax_n1)).mono ?_) | (with_reducible refine (norm_at 1000 232 _ (Lib.hid ax_n2)).mono ?_)); rintro e w' ⟨rfl, rfl⟩)
    | (go_at_call 14; (first | (with_reducible refine (sin_at 8 3196 _ (Lib.hid ax_s1) hT).mono ?_) | (with_reducible refine (sin_at (-8) (-3196) _ (Lib.hid ax_s2) hT).mono ?_)); rintro e w' ⟨rfl, rfl⟩)
    | (go_at_call 16; refine (cos_at 8 16069 _ (Lib.hid ax_c1) hT).mono ?_; rintro e w' ⟨rfl, rfl⟩)
    | (go_at_call 24; (first | (with_reducible refine (between_yes 250 4 64 10 _ (Lib.hid ax_b1)).mono ?_) | (with_reducible refine (between_yes 0 128 64 128 _ (Lib.hid ax_b2)).mono ?_) | (with_reducible refine (between_yes 0 128 192 (-128) _ (Lib.hid ax_b3)).mono ?_) | (with_reducible refine (between_yes 64 192 64 (-128) _ (Lib.hid ax_b4)).mono ?_) | (with_reducible refine (between_yes 192 64 64 128 _ (Lib.hid ax_b5)).mono ?_) | (with_reducible refine (between_yes 138 10 64 (-128) _ (Lib.hid ax_b6)).mono ?_)); rintro e w' ⟨rfl, rfl⟩)
    | (go_at_call 22; (first | (with_reducible refine (turned_yes 3 4 64 4 (-3) _ (Lib.hid ax_t1) (by with_reducible assumption)).mono ?_) | (with_reducible refine (turned_yes 100 0 16 92 (-38) _ (Lib.hid ax_t2) (by with_reducible assumption)).mono ?_) | (with_reducible refine (turned_yes 1000 0 32 707 (-707) _ (Lib.hid ax_t3) (by with_reducible assumption)).mono ?_)); rintro e w1 ⟨rfl, hg⟩; have hT1 := tab_grown (by with_reducible assumption) hg; have HK := Lib.hid (grown_trans (Hid.out (by with_reducible assumption)) hg); clear hg)
    | (go_at_call 12; (first | (with_reducible refine (mir_at 64 192 _ (Lib.hid ax_m1)).mono ?_) | (with_reducible refine (mir_at (-3) 3 _ (Lib.hid ax_m2)).mono ?_)); rintro e w' ⟨rfl, rfl⟩))
  go_ret
  exact ⟨rfl, HK.out⟩
end Go.Proofs.YtcchenfagkohdaaDoor.AngW
