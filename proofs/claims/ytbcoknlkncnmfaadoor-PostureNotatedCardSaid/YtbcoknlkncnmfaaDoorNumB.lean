/-
  Walks of Round, Floor and Lerp of package num and of the specification: what each call returns for every input, at every world. Condition: the arguments are numbers of 64 bits.
-/
import Derived.Test.YtbcoknlkncnmfaaDoorNumA
namespace Go.Proofs.YtbcoknlkncnmfaaDoor.NumW
open Go.ChangeShapes Go.WideShapes Go.ChangeAt Go.RowKit
open NumP



/-! ### Floor -/
set_option maxHeartbeats 800000 in
theorem floor_any (a b : Int) (w : World) :
    Calls Tryd.prog 87 #[.int .i64 a, .int .i64 b] w fun e w' => e = .returned (.tuple #[.int .i64 (floorQ a b), .int .i64 (floorR a b), .int .i64 (floorE a b)]) ∧ Drew w w' := by
  by_cases ha : smallB a = false
  · have HE := Lib.hid (floorE_range (a := a) (b := b) (Or.inl ha))
    have HV := Lib.hid (floor_err (a := a) (b := b) (by rw [HE.out]; decide))
    go_enter Tryd.func87, Tryd.ntmps87
    go_wp2_with (go_at_call 88; refine (small_any _ _).mono ?_; rintro e w' ⟨rfl, rfl⟩)
    go_ret3
    exact ⟨ret_three HV.out.1.symm HV.out.2.symm HE.out.symm, Drew.refl _⟩
  · have ha := Bool.of_not_eq_false ha
    by_cases hb : smallB b = false
    · have HE := Lib.hid (floorE_range (a := a) (b := b) (Or.inr hb))
      have HV := Lib.hid (floor_err (a := a) (b := b) (by rw [HE.out]; decide))
      go_enter Tryd.func87, Tryd.ntmps87
      go_wp2_with (go_at_call 88; refine (small_any _ _).mono ?_; rintro e w' ⟨rfl, rfl⟩)
      go_ret3
      exact ⟨ret_three HV.out.1.symm HV.out.2.symm HE.out.symm, Drew.refl _⟩
    · have hb := Bool.of_not_eq_false hb
      obtain ⟨a0, a1⟩ := (small_iff a).1 ha
      obtain ⟨b0, b1⟩ := (small_iff b).1 hb
      by_cases h0 : b = 0
      · have HE := Lib.hid (show floorE a b = 11 by rw [h0]; exact floorE_div ha)
        have HV := Lib.hid (floor_err (a := a) (b := b) (by rw [HE.out]; decide))
        have h1 : 0 ≤ b := by omega
        have h2 : b ≤ 0 := by omega
        clear h0
        go_enter Tryd.func87, Tryd.ntmps87
        go_wp2_with (go_at_call 88; refine (small_any _ _).mono ?_; rintro e w' ⟨rfl, rfl⟩)
        go_ret3
        exact ⟨ret_three HV.out.1.symm HV.out.2.symm HE.out.symm, Drew.refl _⟩
      · by_cases hn : b < 0
        · have HE := Lib.hid (floorE_neg ha hb hn)
          have HV := Lib.hid (floor_err (a := a) (b := b) (by rw [HE.out]; decide))
          clear h0
          go_enter Tryd.func87, Tryd.ntmps87
          go_wp2_with (go_at_call 88; refine (small_any _ _).mono ?_; rintro e w' ⟨rfl, rfl⟩)
          go_ret3
          exact ⟨ret_three HV.out.1.symm HV.out.2.symm HE.out.symm, Drew.refl _⟩
        · have hp : 1 ≤ b := by omega
          have HE := Lib.hid (floor_ok ha hb hp)
          have ht := tmod_bd a b hp
          have hq := tdiv_bd a b _ hp a0 a1
          clear h0 hn
          by_cases h : a.tmod b < 0
          · have H := Lib.hid (down_neg a b hp h)
            by_cases h0 : 0 ≤ a
            · exact absurd (Int.tmod_nonneg b h0) (by omega)
            · go_enter Tryd.func87, Tryd.ntmps87
              go_wp2_with (go_at_call 88; refine (small_any _ _).mono ?_; rintro e w' ⟨rfl, rfl⟩)
              go_quiet (fail)
              go_wp2
              go_ret3
              exact ⟨ret_three (H.out.1.trans HE.out.2.1.symm) (H.out.2.trans HE.out.2.2.symm) HE.out.1.symm, (Drew.refl _).step _⟩
          · have H := Lib.hid (down_pos a b hp (by omega))
            by_cases h0 : 0 ≤ a
            · have hm := mod_bd a b hp
              go_enter Tryd.func87, Tryd.ntmps87
              go_wp2_with (go_at_call 88; refine (small_any _ _).mono ?_; rintro e w' ⟨rfl, rfl⟩)
              go_quiet (fail)
              go_wp2
              go_ret3
              exact ⟨ret_three (H.out.1.trans HE.out.2.1.symm) HE.out.2.2.symm HE.out.1.symm, (Drew.refl _).step _⟩
            · go_enter Tryd.func87, Tryd.ntmps87
              go_wp2_with (go_at_call 88; refine (small_any _ _).mono ?_; rintro e w' ⟨rfl, rfl⟩)
              go_quiet (fail)
              go_wp2
              go_ret3
              exact ⟨ret_three (H.out.1.trans HE.out.2.1.symm) (H.out.2.trans HE.out.2.2.symm) HE.out.1.symm, (Drew.refl _).step _⟩

end Go.Proofs.YtbcoknlkncnmfaaDoor.NumW
