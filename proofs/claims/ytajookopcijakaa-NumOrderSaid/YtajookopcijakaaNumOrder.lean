/-
  For every input, exchanged products have the opposite order, exchanged factors the same one, products below 2^60 compare as integers, and both products multiplied by a positive number compare as before; other inputs are errors; the chapter's examples hold: NumOrder returns true and leaves its arguments as they were. Condition: none.
-/
import Derived.Test.YtajookopcijakaaNumFrame
import Derived.Deep.DeepCutAuto
namespace Go.Proofs.Ytajookopcijakaa.NumW
open Go.ChangeShapes Go.WideShapes Go.ChangeAt Go.RowKit Go.Joins
open NumP

theorem mul_in4 {x y m k : Int} (hx : -m ≤ x ∧ x ≤ m) (hy : 0 ≤ y ∧ y ≤ k) : -(m * k) ≤ x * y ∧ x * y ≤ m * k := by
  have hm : 0 ≤ m := by omega
  have h1 := Int.mul_le_mul_of_nonneg_right hx.1 hy.1
  have h2 := Int.mul_le_mul_of_nonneg_right hx.2 hy.1
  have h3 := Int.mul_le_mul_of_nonneg_left hy.2 hm
  rw [Int.neg_mul] at h1
  omega
def mx (x y : Int) : Int := if y > x then y else x
def mn (x y : Int) : Int := if y < x then y else x
theorem run_max4 {P : Program} {w : World} (ts : Array TypeId) (t : TypeId) (x y z u : Int) :
    (Builtin.max_ ts t #[.int .i64 x, .int .i64 y, .int .i64 z, .int .i64 u]).run P w = .ok (.int .i64 (mx (mx (mx x y) z) u)) w := by
  simp [Builtin.max_, Builtin.max2, mx]
theorem run_min4 {P : Program} {w : World} (ts : Array TypeId) (t : TypeId) (x y z u : Int) :
    (Builtin.min_ ts t #[.int .i64 x, .int .i64 y, .int .i64 z, .int .i64 u]).run P w = .ok (.int .i64 (mn (mn (mn x y) z) u)) w := by
  simp [Builtin.min_, Builtin.min2, mn]
  rfl
theorem mx_le {x y z u m : Int} (h : mx (mx (mx x y) z) u ≤ m) : x ≤ m ∧ y ≤ m ∧ z ≤ m ∧ u ≤ m := by
  unfold mx at h; omega
theorem le_mn {x y z u m : Int} (h : m ≤ mn (mn (mn x y) z) u) : m ≤ x ∧ m ≤ y ∧ m ≤ z ∧ m ≤ u := by
  unfold mn at h; omega
theorem bool_no2 {p q : Prop} [Decidable p] [Decidable q] (hp : ¬ p) (hq : ¬ q) : Value.bool (decide p || decide q) = Value.bool false := by simp [hp, hq]

set_option maxHeartbeats 1600000 in
theorem NumOrder_bad (a0 a1 a2 a3 a4 : Int) (w : World) (h : cmpOk a0 a1 a2 a3 = false) :
    Calls Try.prog 11 #[.agg #[.int .i64 a0, .int .i64 a1, .int .i64 a2, .int .i64 a3], .int .i64 a4] w fun e w' => e = .returned (.bool true) ∧ Grown w w' := by
  have H := Lib.hid (cmp_no h)
  clear h
  go_enter Try.func11, Try.ntmps11
  go_wp2_with (first | (go_at_call 25; refine (cmp_at _ _ _ _ 0 1 _ H).mono ?_; rintro e w' ⟨rfl, rfl⟩) | (go_at_call 14; refine (awake_any _).mono ?_; rintro e w' ⟨rfl, ⟨n1, rfl⟩⟩))
  go_ret
  exact ⟨rfl, by repeat (first | exact Grown.refl _ | apply grown_drewN | apply Grown.alloc)⟩

set_option maxRecDepth 100000 in
set_option maxHeartbeats 4000000 in
/-- The walk as far as the test of the sizes, and behind it where a number is great. -/
theorem NumOrder_big (a0 a1 a2 a3 a4 v M m : Int) (w : World) (hv : -1 ≤ v ∧ v ≤ 1) (H : Hid (cmpV a0 a1 a2 a3 = v ∧ cmpE a0 a1 a2 a3 = 0)) (H1 : Hid (cmpV a2 a3 a0 a1 = -v ∧ cmpE a2 a3 a0 a1 = 0)) (H2 : Hid (cmpV a1 a0 a3 a2 = v ∧ cmpE a1 a0 a3 a2 = 0))
    (hmx : ∀ (W : World) (ts : Array TypeId) (t : TypeId), (Builtin.max_ ts t #[.int .i64 a0, .int .i64 a1, .int .i64 a2, .int .i64 a3]).run Try.prog W = .ok (.int .i64 M) W)
    (hmn : ∀ (W : World) (ts : Array TypeId) (t : TypeId), (Builtin.min_ ts t #[.int .i64 a0, .int .i64 a1, .int .i64 a2, .int .i64 a3]).run Try.prog W = .ok (.int .i64 m) W)
    (hc : 1073741824 < M ∨ ¬ 1073741824 < M ∧ m < -1073741824) :
    Calls Try.prog 11 #[.agg #[.int .i64 a0, .int .i64 a1, .int .i64 a2, .int .i64 a3], .int .i64 a4] w fun e w' => e = .returned (.bool true) ∧ Grown w w' := by
  rcases hc with hc | ⟨hc, hc2⟩
  all_goals
    go_enter Try.func11, Try.ntmps11
    go_wp2_with (first | (go_at_call 25; refine (cmp_at _ _ _ _ v 0 _ H).mono ?_; rintro e w' ⟨rfl, rfl⟩) | (go_at_call 27; (first | (with_reducible refine (compares_yes _ _ _ _ _ _ H1).mono ?_) | (with_reducible refine (compares_yes _ _ _ _ _ _ H2).mono ?_)); rintro e w' ⟨rfl, rfl⟩) | (go_at_call 14; refine (awake_any _).mono ?_; rintro e w' ⟨rfl, ⟨n1, rfl⟩⟩))
    go_ret
    exact ⟨rfl, by repeat (first | exact Grown.refl _ | apply grown_drewN | apply Grown.alloc)⟩

set_option maxRecDepth 100000 in
set_option maxHeartbeats 4000000 in
theorem NumOrder_small (a0 a1 a2 a3 a4 v M m : Int) (w : World) (hv : -1 ≤ v ∧ v ≤ 1) (H : Hid (cmpV a0 a1 a2 a3 = v ∧ cmpE a0 a1 a2 a3 = 0)) (H1 : Hid (cmpV a2 a3 a0 a1 = -v ∧ cmpE a2 a3 a0 a1 = 0)) (H2 : Hid (cmpV a1 a0 a3 a2 = v ∧ cmpE a1 a0 a3 a2 = 0))
    (hmx : ∀ (W : World) (ts : Array TypeId) (t : TypeId), (Builtin.max_ ts t #[.int .i64 a0, .int .i64 a1, .int .i64 a2, .int .i64 a3]).run Try.prog W = .ok (.int .i64 M) W)
    (hmn : ∀ (W : World) (ts : Array TypeId) (t : TypeId), (Builtin.min_ ts t #[.int .i64 a0, .int .i64 a1, .int .i64 a2, .int .i64 a3]).run Try.prog W = .ok (.int .i64 m) W)
    (hM : ¬ 1073741824 < M) (hm : ¬ m < -1073741824)
    (p1 : -1152921504606846976 ≤ a0 * a1 ∧ a0 * a1 ≤ 1152921504606846976) (p2 : -1152921504606846976 ≤ a2 * a3 ∧ a2 * a3 ≤ 1152921504606846976)
    (t : v = -1 ∧ a0 * a1 < a2 * a3 ∨ v = 0 ∧ (a0 * a1 != a2 * a3) = false ∨ v = 1 ∧ a2 * a3 < a0 * a1)
    (z : a4 < 1 ∨ ¬ a4 < 1 ∧ 1048576 < a4 ∨ ¬ a4 < 1 ∧ ¬ 1048576 < a4 ∧ (-1125899906842624 ≤ a0 * a4 ∧ a0 * a4 ≤ 1125899906842624) ∧ (-1125899906842624 ≤ a2 * a4 ∧ a2 * a4 ≤ 1125899906842624) ∧ Hid (cmpV (a0 * a4) a1 (a2 * a4) a3 = v ∧ cmpE (a0 * a4) a1 (a2 * a4) a3 = 0)) :
    Calls Try.prog 11 #[.agg #[.int .i64 a0, .int .i64 a1, .int .i64 a2, .int .i64 a3], .int .i64 a4] w fun e w' => e = .returned (.bool true) ∧ Grown w w' := by
  go_enter Try.func11, Try.ntmps11
  go_upto_region 6 with (first | (go_at_call 25; refine (cmp_at _ _ _ _ v 0 _ H).mono ?_; rintro e w' ⟨rfl, rfl⟩) | (go_at_call 27; (first | (with_reducible refine (compares_yes _ _ _ _ _ _ H1).mono ?_) | (with_reducible refine (compares_yes _ _ _ _ _ _ H2).mono ?_)); rintro e w' ⟨rfl, rfl⟩))
  go_cut [86] (fun s wx => s = .bool false ∧ wx = w.alloc (.cells #[.int .i64 a0, .int .i64 a1, .int .i64 a2, .int .i64 a3] 23))
  case first =>
    clear t z p1 p2 H H1 H2
    go_wp2
    all_goals (go_meet; exact ⟨bool_no2 (by omega) (by omega), rfl⟩)
  case rest =>
    obtain ⟨rfl, rfl⟩ := hcut
    clear H H1 H2 hM hm hmx hmn
    go_upto_region 8 with (fail)
    go_quiet (fail)
    go_upto_region 9 with (fail)
    go_cut [122] (fun s wx => s = .bool false ∧ ∃ n, wx = (w.alloc (.cells #[.int .i64 a0, .int .i64 a1, .int .i64 a2, .int .i64 a3] 23)).drewN n)
    case first =>
      rcases t with ⟨rfl, t1⟩ | ⟨rfl, t1⟩ | ⟨rfl, t1⟩
      all_goals
        clear z
        go_wp2
        go_meet
        first | exact ⟨rfl, _, rfl⟩ | exact ⟨congrArg Value.bool (decide_eq_false (by omega)), _, rfl⟩
    case rest =>
      obtain ⟨rfl, n3, rfl⟩ := hcut
      clear t p1 p2
      rcases z with z1 | ⟨z1, z2⟩ | ⟨z1, z2, z3, z4, Z⟩
      · go_wp2_with (go_at_call 14; refine (awake_any _).mono ?_; rintro e w' ⟨rfl, ⟨n1, rfl⟩⟩)
        go_ret
        exact ⟨rfl, by repeat (first | exact Grown.refl _ | apply grown_drewN | apply Grown.alloc)⟩
      · go_wp2_with (go_at_call 14; refine (awake_any _).mono ?_; rintro e w' ⟨rfl, ⟨n1, rfl⟩⟩)
        go_ret
        exact ⟨rfl, by repeat (first | exact Grown.refl _ | apply grown_drewN | apply Grown.alloc)⟩
      · go_wp2_with (first | (go_at_call 27; refine (compares_yes _ _ _ _ _ _ Z).mono ?_; rintro e w' ⟨rfl, rfl⟩) | (go_at_call 14; refine (awake_any _).mono ?_; rintro e w' ⟨rfl, ⟨n1, rfl⟩⟩))
        go_ret
        exact ⟨rfl, by repeat (first | exact Grown.refl _ | apply grown_drewN | apply Grown.alloc)⟩

theorem mul_shuffle (a b m : Int) : a * m * b = a * b * m := by rw [Int.mul_assoc, Int.mul_comm m b, ← Int.mul_assoc]
theorem NumOrder_walk (a0 a1 a2 a3 a4 : Int) (_b0 : -9223372036854775808 ≤ a0 ∧ a0 ≤ 9223372036854775807) (_b1 : -9223372036854775808 ≤ a1 ∧ a1 ≤ 9223372036854775807) (_b2 : -9223372036854775808 ≤ a2 ∧ a2 ≤ 9223372036854775807) (_b3 : -9223372036854775808 ≤ a3 ∧ a3 ≤ 9223372036854775807) (_b4 : -9223372036854775808 ≤ a4 ∧ a4 ≤ 9223372036854775807) (w : World) :
    Calls Try.prog 11 #[.agg #[.int .i64 a0, .int .i64 a1, .int .i64 a2, .int .i64 a3], .int .i64 a4] w fun e w' => e = .returned (.bool true) ∧ Grown w w' := by
  by_cases h : cmpOk a0 a1 a2 a3 = true
  · have ho := cmp_ok h
    have hs := cmpV_swap a0 a1 a2 a3
    have hf := cmpV_flip a0 a1 a2 a3
    have hv : -1 ≤ cmpV a0 a1 a2 a3 ∧ cmpV a0 a1 a2 a3 ≤ 1 := by rw [ho.1]; exact cmp3_bd _ _
    have hi := cmp3_iff (a0 * a1) (a2 * a3)
    rw [← ho.1] at hi
    have H := Lib.hid (show cmpV a0 a1 a2 a3 = cmpV a0 a1 a2 a3 ∧ cmpE a0 a1 a2 a3 = 0 from ⟨rfl, ho.2⟩)
    have H1 := Lib.hid (show cmpV a2 a3 a0 a1 = -cmpV a0 a1 a2 a3 ∧ cmpE a2 a3 a0 a1 = 0 from ⟨hs.1, hs.2.trans ho.2⟩)
    have H2 := Lib.hid (show cmpV a1 a0 a3 a2 = cmpV a0 a1 a2 a3 ∧ cmpE a1 a0 a3 a2 = 0 from ⟨hf.1, hf.2.trans ho.2⟩)
    by_cases c1 : 1073741824 < mx (mx (mx a0 a1) a2) a3
    · exact NumOrder_big a0 a1 a2 a3 a4 _ _ _ w hv H H1 H2 (fun _ ts t => run_max4 ts t a0 a1 a2 a3) (fun _ ts t => run_min4 ts t a0 a1 a2 a3) (Or.inl c1)
    · by_cases c2 : mn (mn (mn a0 a1) a2) a3 < -1073741824
      · exact NumOrder_big a0 a1 a2 a3 a4 _ _ _ w hv H H1 H2 (fun _ ts t => run_max4 ts t a0 a1 a2 a3) (fun _ ts t => run_min4 ts t a0 a1 a2 a3) (Or.inr ⟨c1, c2⟩)
      · obtain ⟨x0, x1, x2, x3⟩ := mx_le (show mx (mx (mx a0 a1) a2) a3 ≤ 1073741824 by omega)
        obtain ⟨n0, n1, n2, n3⟩ := le_mn (show -1073741824 ≤ mn (mn (mn a0 a1) a2) a3 by omega)
        have p1 := mul_bd (m := 1073741824) ⟨n0, x0⟩ ⟨n1, x1⟩
        have p2 := mul_bd (m := 1073741824) ⟨n2, x2⟩ ⟨n3, x3⟩
        refine NumOrder_small a0 a1 a2 a3 a4 _ _ _ w hv H H1 H2 (fun _ ts t => run_max4 ts t a0 a1 a2 a3) (fun _ ts t => run_min4 ts t a0 a1 a2 a3) c1 c2 p1 p2 ?_ ?_
        · rcases Int.lt_trichotomy (a0 * a1) (a2 * a3) with g | g | g
          · exact Or.inl ⟨hi.1.2 g, g⟩
          · exact Or.inr (Or.inl ⟨hi.2.1.2 g, by rw [g]; simp⟩)
          · exact Or.inr (Or.inr ⟨hi.2.2.2 g, g⟩)
        · by_cases d1 : a4 < 1
          · exact Or.inl d1
          · by_cases d2 : 1048576 < a4
            · exact Or.inr (Or.inl ⟨d1, d2⟩)
            · have y0 := mul_in4 (x := a0) (y := a4) (m := 1073741824) (k := 1048576) ⟨n0, x0⟩ (by omega)
              have y2 := mul_in4 (x := a2) (y := a4) (m := 1073741824) (k := 1048576) ⟨n2, x2⟩ (by omega)
              obtain ⟨k0, k1, k2, k3⟩ := (cmpOk_iff a0 a1 a2 a3).1 h
              have hk : cmpOk (a0 * a4) a1 (a2 * a4) a3 = true := (cmpOk_iff _ _ _ _).2 ⟨(small_iff _).2 y0, k1, (small_iff _).2 y2, k3⟩
              have hk2 := cmp_ok hk
              rw [mul_shuffle a0 a1 a4, mul_shuffle a2 a3 a4, cmp3_mul _ _ a4 (by omega), ← ho.1] at hk2
              exact Or.inr (Or.inr ⟨d1, d2, y0, y2, Lib.hid hk2⟩)
  · exact NumOrder_bad a0 a1 a2 a3 a4 w (Bool.of_not_eq_true h)

theorem cells_NumOrder : Try.prog.cellsOf 23 = 4 := by kernel_rfl
set_option maxRecDepth 100000 in
theorem NumOrder_lifted (os : Os) (started : os.Started) (H : Type) (enc : TypeId × Value → H) :
    ReturnsInHanded {} Try.checked os 11 .any (Rows.numOrderSpec.pre6 enc Try.prog Try.f11 Rows.numOrderRow.domain false) (Rows.numOrderSpec.post enc Try.prog Try.f11 false true false false) := by
  refine returnsInHanded_of_change (C := Try.checked) own started (by kernel_rfl) Try.func11
    (ChangeSpec.witness6 (enc := enc) (C := Try.checked) false ⟨#[], #[.agg #[.int .i64 0, .int .i64 0, .int .i64 0, .int .i64 0], .int .i64 0], []⟩ 8 (by kernel_rfl) (by kernel_rfl) (by kernel_rfl) (by kernel_rfl)) ?_
  intro W base args ds gs before hval0 hW hcnd _
  have hval : ∀ (j : Nat) t v, Try.f11.params[j]? = some t → args[j]? = some v → Value.okWide Try.prog W .any base t v := hval0
  have hW' := hW
  obtain ⟨p, q, hA0, hV, rfl, hfz, hnd⟩ := hW
  have hA : DataW.TrodAll enc Try.prog W 0 (fun _ => true) true Try.f11.params.toList args.toList ds p := hA0
  rw [Try.params11] at hA hval
  obtain ⟨v0, vs0, d0, ds0, p0, q0, hargs, rfl, rfl, h0, r0⟩ := trodAll_cons hA
  obtain ⟨v1, vs1, d1, ds1, p1, q1, rfl, rfl, rfl, h1, r1⟩ := trodAll_cons r0
  obtain ⟨rfl, rfl, rfl⟩ := trodAll_nil r1
  obtain rfl : args = #[v0, v1] := by cases args; simp_all
  obtain ⟨rfl, rfl⟩ := trodVars_none hV
  obtain ⟨c0_0, c0_1, c0_2, c0_3, y0_0, y0_1, y0_2, y0_3, m0, rfl, rfl, rfl, hy0_0, hy0_1, hy0_2, hy0_3⟩ := open_agg4 Try.underlying23 (by kernel_rfl) cells_NumOrder (hval 0 23 v0 rfl rfl) h0
  obtain ⟨a0, e0_0, rfl, wa0⟩ := DataW.trod_int Try.underlying3 hy0_0
  obtain ⟨a1, e0_1, rfl, wa1⟩ := DataW.trod_int Try.underlying3 hy0_1
  obtain ⟨a2, e0_2, rfl, wa2⟩ := DataW.trod_int Try.underlying3 hy0_2
  obtain ⟨a3, e0_3, rfl, wa3⟩ := DataW.trod_int Try.underlying3 hy0_3
  simp at e0_0 e0_1 e0_2 e0_3
  subst e0_0 e0_1 e0_2 e0_3
  obtain ⟨a4, rfl, rfl, rfl, wa4⟩ := open_int Try.underlying3 (hval 1 3 v1 rfl rfl) h1
  clear hA0 hval0
  simp only [List.append_nil] at hW'
  have sr0 : ∀ (W' : World) (sp : Nat → Bool), DataW.Trod enc Try.prog W' 0 sp true 23 (.agg #[.int .i64 a0, .int .i64 a1, .int .i64 a2, .int .i64 a3]) (.agg [.lit (.int .i64 a0), .lit (.int .i64 a1), .lit (.int .i64 a2), .lit (.int .i64 a3)]) [] := fun W' sp =>
    shut_agg4 (y0 := (.lit (.int .i64 a0), [])) (y1 := (.lit (.int .i64 a1), [])) (y2 := (.lit (.int .i64 a2), [])) (y3 := (.lit (.int .i64 a3), [])) Try.underlying23 (by kernel_rfl) cells_NumOrder ⟨1, by simp [DataW.trod, Try.underlying3, wa0]⟩ ⟨1, by simp [DataW.trod, Try.underlying3, wa1]⟩ ⟨1, by simp [DataW.trod, Try.underlying3, wa2]⟩ ⟨1, by simp [DataW.trod, Try.underlying3, wa3]⟩
  refine (NumOrder_walk a0 a1 a2 a3 a4 (wf_bd wa0) (wf_bd wa1) (wf_bd wa2) (wf_bd wa3) (wf_bd wa4) W).mono fun e W' ⟨he, hg⟩ => ?_
  subst he
  exact ⟨_, rfl, post_of_same (pa := []) (pv := []) hW' (fun _ _ _ => (trodAll_cons_mk (shut_bool Try.underlying4 _) trodAll_mk0)) (fun sp _ => (trodAll_cons_mk (sr0 _ sp) (trodAll_cons_mk (shut_int Try.underlying3 wa4) trodAll_mk0))) (fun _ _ => rfl) rfl
    (hg.frame _) hg.2.1 (ok_one (by kernel_rfl) rfl (okWide_bool_mk Try.underlying4 _))⟩
theorem NumOrder_holds : Rows.NumOrderSaid :=
  OpenClaim.holds_of_wide 11 Try.f11 rfl rfl rfl rfl rfl rfl rfl ⟨rfl, rfl, rfl, rfl, rfl⟩ rfl rfl rfl rfl rfl (by kernel_rfl) Try.func11 (by kernel_rfl)
    (of_decide_eq_true (by kernel_rfl)) (by unfold Func.isWrapper; first | (rw [if_pos (by decide +kernel)]; kernel_rfl) | (rw [if_neg (by decide +kernel)]; exact ⟨rfl, rfl⟩))
    (fun os started H enc _ => NumOrder_lifted os started H enc)
#print axioms NumOrder_holds
end Go.Proofs.Ytajookopcijakaa.NumW
