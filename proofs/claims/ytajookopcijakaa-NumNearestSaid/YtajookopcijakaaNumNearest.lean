/-
  For every input, a rounded quotient is exact to half a unit, halves go to the even integer, a changed sign of one number changes its sign, and the remainder of Floor lies below the divisor; other inputs are errors; the chapter's examples hold: NumNearest returns true and leaves its arguments as they were. Condition: none.
-/
import Derived.Test.YtajookopcijakaaNumFrame
import Derived.Deep.DeepCutAuto
namespace Go.Proofs.Ytajookopcijakaa.NumW
open Go.ChangeShapes Go.WideShapes Go.ChangeAt Go.RowKit Go.Joins
open NumP

theorem roundV_negL {a b : Int} (ha : smallB a = true) (hb : smallB b = true) (h : b ≠ 0) : roundV (-a) b = -roundV a b ∧ roundE (-a) b = 0 := by
  have h1 := round_ok (by rw [small_neg]; exact ha) hb h (a := -a)
  have h2 := round_ok ha hb h
  refine ⟨?_, h1.1⟩
  rw [h1.2, h2.2]
  by_cases hn : b < 0
  · rw [if_pos hn, if_pos hn, near_neg _ _ (by omega)]
  · rw [if_neg hn, if_neg hn, near_neg _ _ (by omega)]
theorem roundV_negR {a b : Int} (ha : smallB a = true) (hb : smallB b = true) (h : b ≠ 0) : roundV a (-b) = -roundV a b ∧ roundE a (-b) = 0 := by
  have h1 := round_ok ha (by rw [small_neg]; exact hb) (by omega) (b := -b)
  have h2 := round_ok ha hb h
  refine ⟨?_, h1.1⟩
  rw [h1.2, h2.2]
  by_cases hn : b < 0
  · rw [if_neg (by omega), if_pos hn, near_neg _ _ (by omega)]; omega
  · rw [if_pos (by omega), if_neg hn, near_neg _ _ (by omega), Int.neg_neg]
/-- The rounded quotient of numbers of any signs, said with the divisor's size c. -/
theorem round_near {a b v c : Int} (ha : smallB a = true) (hb : smallB b = true) (h : b ≠ 0) (hv : roundV a b = v) (hc : (b.natAbs : Int) = c) :
    -c ≤ 2 * (a - v * b) ∧ 2 * (a - v * b) ≤ c ∧ (2 * (a - v * b) = c → v % 2 = 0) ∧ (2 * (a - v * b) = -c → v % 2 = 0) := by
  have h2 := (round_ok ha hb h).2
  rw [hv] at h2
  by_cases hn : b < 0
  · rw [if_pos hn] at h2
    obtain ⟨n1, n2, n3, n4⟩ := near_spec (-a) (-b) (by omega)
    rw [← h2, Int.mul_neg] at n1 n2 n3 n4
    generalize v * b = x at *
    omega
  · rw [if_neg hn] at h2
    obtain ⟨n1, n2, n3, n4⟩ := near_spec a b (by omega)
    rw [← h2] at n1 n2 n3 n4
    generalize v * b = x at *
    omega
theorem abs_mul (v b : Int) : (v * b).natAbs = v.natAbs * b.natAbs := Int.natAbs_mul v b
theorem quot_bd {v c d x : Int} (hc : 1 ≤ c) (hx : (v.natAbs : Int) * c = x) (h : 2 * x ≤ 2 * d + c) : -(d / c) - 1 ≤ v ∧ v ≤ d / c + 1 := by
  have h1 := mod_bd d c hc
  have h2 := divmod_eq d c
  have h3 : (v.natAbs : Int) ≤ d / c + 1 := by
    by_cases g : (v.natAbs : Int) ≤ d / c + 1
    · exact g
    · have h4 := mul_gap hc (show d / c + 1 + 1 ≤ (v.natAbs : Int) by omega)
      have h5 := mul_gap hc (show d / c + 1 ≤ d / c + 1 by omega)
      rw [Int.mul_comm c] at h2
      generalize (d / c + 1) * c = y at *
      generalize d / c * c = z at *
      omega
  omega
theorem nearest_facts {a b v c d : Int} (ha : smallB a = true) (hb : smallB b = true) (h : b ≠ 0) (hv : roundV a b = v) (hc : (b.natAbs : Int) = c) (hd : (a.natAbs : Int) = d) :
    ((2 * (a - v * b) == c) = true ∧ (v.tmod 2 != 0) = false ∨ (2 * (a - v * b) == c) = false ∧ (2 * (a - v * b) == -c) = true ∧ (v.tmod 2 != 0) = false ∨ (2 * (a - v * b) == c) = false ∧ (2 * (a - v * b) == -c) = false) ∧
    (-c ≤ 2 * (a - v * b) ∧ 2 * (a - v * b) ≤ c) ∧ (-(d / c) - 1 ≤ v ∧ v ≤ d / c + 1) ∧ (-4503599627370496 ≤ v * b ∧ v * b ≤ 4503599627370496) ∧ (-(d / c) - 1 ≤ a / c ∧ a / c ≤ d / c) ∧ (0 ≤ d / c ∧ d / c ≤ 1125899906842624) ∧
    (0 ≤ a % c ∧ a % c < c) ∧ a / c * c + a % c = a := by
  obtain ⟨n1, n2, n3, n4⟩ := round_near ha hb h hv hc
  have a1 := (small_iff a).1 ha
  have b1 := (small_iff b).1 hb
  have hc1 : 1 ≤ c := by omega
  have hd0 : 0 ≤ d := by omega
  have e2 := tmod2_ne v
  have hx : (v.natAbs : Int) * c = ((v * b).natAbs : Int) := by rw [abs_mul, Int.natCast_mul, hc]
  have hq := quot_bd (d := d) hc1 hx (by generalize v * b = x at *; omega)
  have hdc := div_bd d c _ hc1 (show -1125899906842624 ≤ d by omega) (by omega)
  have hdc0 : 0 ≤ d / c := Int.ediv_nonneg hd0 (by omega)
  have m1 := mod_bd a c hc1
  have m2 := divmod_eq a c
  have m3 := mod_bd d c hc1
  have m4 := divmod_eq d c
  refine ⟨?_, ⟨n1, n2⟩, hq, by generalize v * b = x at *; omega, ?_, ⟨hdc0, hdc.2⟩, m1, by rw [Int.mul_comm]; exact m2⟩
  · by_cases c1 : 2 * (a - v * b) = c
    · exact Or.inl ⟨beq_iff_eq.2 c1, e2 (n3 c1)⟩
    · by_cases c2 : 2 * (a - v * b) = -c
      · exact Or.inr (Or.inl ⟨beq_eq_false_iff_ne.2 c1, beq_iff_eq.2 c2, e2 (n4 c2)⟩)
      · exact Or.inr (Or.inr ⟨beq_eq_false_iff_ne.2 c1, beq_eq_false_iff_ne.2 c2⟩)
  · rw [Int.mul_comm c] at m2 m4
    constructor
    · by_cases g : -(d / c) - 1 ≤ a / c
      · exact g
      · have h4 := mul_gap hc1 (show a / c + 1 ≤ -(d / c) - 1 - 1 + 1 by omega)
        have h5 : (-(d / c) - 1 - 1 + 1) * c = -(d / c * c) - c := by rw [show -(d / c) - 1 - 1 + 1 = -(d / c) - 1 by omega, Int.sub_mul, Int.neg_mul, Int.one_mul]
        generalize a / c * c = y at *
        generalize d / c * c = z at *
        omega
    · by_cases g : a / c ≤ d / c
      · exact g
      · have h4 := mul_gap hc1 (show d / c + 1 ≤ a / c by omega)
        generalize a / c * c = y at *
        generalize d / c * c = z at *
        omega
set_option maxRecDepth 100000 in
set_option maxHeartbeats 1600000 in
theorem NumNearest_range (a0 a1 : Int) (w : World) (b0 : -9223372036854775808 ≤ a0 ∧ a0 ≤ 9223372036854775807) (b1 : -9223372036854775808 ≤ a1 ∧ a1 ≤ 9223372036854775807) (h : smallB a0 = false ∨ smallB a1 = false) :
    Calls Try.prog 7 #[.int .i64 a0, .int .i64 a1] w fun e w' => e = .returned (.bool true) ∧ Grown w w' := by
  have hE := roundE_range h
  have H := Lib.hid (show roundV a0 a1 = 0 ∧ roundE a0 a1 = 1 from ⟨round_err (by rw [hE]; decide), hE⟩)
  rw [small_not, small_not] at h
  have t : a0 < -1125899906842624 ∨ ¬ a0 < -1125899906842624 ∧ 1125899906842624 < a0 ∨ ¬ a0 < -1125899906842624 ∧ ¬ 1125899906842624 < a0 ∧ a1 < -1125899906842624 ∨ ¬ a0 < -1125899906842624 ∧ ¬ 1125899906842624 < a0 ∧ ¬ a1 < -1125899906842624 ∧ 1125899906842624 < a1 := by omega
  have B0 := Lib.hid b0
  have B1 := Lib.hid b1
  clear h hE b0 b1
  rcases t with t | ⟨t, t1⟩ | ⟨t, t1, t2⟩ | ⟨t, t1, t2, t3⟩
  all_goals
    go_enter Try.func7, Try.ntmps7
    go_wp2_with (first | (go_at_call 17; refine (round_at _ _ 0 1 _ H B0.out.1 B0.out.2 B1.out.1 B1.out.2).mono ?_; rintro e w' ⟨rfl, ⟨n1, rfl⟩⟩) | (go_at_call 14; refine (awake_any _).mono ?_; rintro e w' ⟨rfl, ⟨n1, rfl⟩⟩))
    go_ret
    exact ⟨rfl, by repeat (first | exact Grown.refl _ | apply grown_drewN | apply Grown.alloc)⟩
set_option maxRecDepth 100000 in
set_option maxHeartbeats 1600000 in
theorem NumNearest_zero (a0 : Int) (w : World) (ha : smallB a0 = true) :
    Calls Try.prog 7 #[.int .i64 a0, .int .i64 0] w fun e w' => e = .returned (.bool true) ∧ Grown w w' := by
  have hE := roundE_div ha
  have H := Lib.hid (show roundV a0 0 = 0 ∧ roundE a0 0 = 11 from ⟨round_err (by rw [hE]; decide), hE⟩)
  have a1 := (small_iff a0).1 ha
  clear hE ha
  go_enter Try.func7, Try.ntmps7
  go_wp2_with (first | (go_at_call 17; refine (round_at _ _ 0 11 _ H (by omega) (by omega) (by omega) (by omega)).mono ?_; rintro e w' ⟨rfl, ⟨n1, rfl⟩⟩) | (go_at_call 14; refine (awake_any _).mono ?_; rintro e w' ⟨rfl, ⟨n1, rfl⟩⟩))
  go_ret
  exact ⟨rfl, by repeat (first | exact Grown.refl _ | apply grown_drewN | apply Grown.alloc)⟩

theorem bool_no {p q : Prop} [Decidable p] [Decidable q] (hp : ¬ p) (hq : ¬ q) : Value.bool (decide p || decide q) = Value.bool false := by simp [hp, hq]
set_option maxRecDepth 100000 in
set_option maxHeartbeats 4000000 in
theorem NumNearest_core (a0 a1 v c d q r : Int) (w : World) (ha : -1125899906842624 ≤ a0 ∧ a0 ≤ 1125899906842624) (hb : -1125899906842624 ≤ a1 ∧ a1 ≤ 1125899906842624)
    (hz : (a1 == 0) = false) (H : Hid (roundV a0 a1 = v ∧ roundE a0 a1 = 0)) (H1 : Hid (roundV (-a0) a1 = -v ∧ roundE (-a0) a1 = 0)) (H2 : Hid (roundV a0 (-a1) = -v ∧ roundE a0 (-a1) = 0))
    (HF : Hid (floorQ a0 c = q ∧ floorR a0 c = r ∧ floorE a0 c = 0))
    (hmx : ∀ (W : World) (ts : Array TypeId) (t : TypeId), (Builtin.max_ ts t #[.int .i64 a1, .int .i64 (-a1)]).run Try.prog W = .ok (.int .i64 c) W)
    (hmy : ∀ (W : World) (ts : Array TypeId) (t : TypeId), (Builtin.max_ ts t #[.int .i64 a0, .int .i64 (-a0)]).run Try.prog W = .ok (.int .i64 d) W)
    (hc : 1 ≤ c ∧ c ≤ 1125899906842624) (_hd : 0 ≤ d ∧ d ≤ 1125899906842624) (hv : -1125899906842624 ≤ v ∧ v ≤ 1125899906842624)
    (_hdc : 0 ≤ d / c ∧ d / c ≤ 1125899906842624) (hdt : 0 ≤ d.tdiv c ∧ d.tdiv c ≤ 1125899906842624)
    (l1 : -(d.tdiv c) - 1 ≤ v) (_l2 : v ≤ d / c + 1) (l5 : v ≤ d.tdiv c + 1) (hp : -4503599627370496 ≤ v * a1 ∧ v * a1 ≤ 4503599627370496)
    (l3 : -c ≤ 2 * (a0 - v * a1)) (l4 : 2 * (a0 - v * a1) ≤ c)
    (t : (2 * (a0 - v * a1) == c) = true ∧ (v.tmod 2 != 0) = false ∨ (2 * (a0 - v * a1) == c) = false ∧ (2 * (a0 - v * a1) == -c) = true ∧ (v.tmod 2 != 0) = false ∨ (2 * (a0 - v * a1) == c) = false ∧ (2 * (a0 - v * a1) == -c) = false)
    (r1 : 0 ≤ r) (r2 : r < c) (q1 : -(d.tdiv c) - 1 ≤ q) (_q2 : q ≤ d / c) (q5 : q ≤ d.tdiv c) (q3 : -2251799813685248 ≤ q * c ∧ q * c ≤ 2251799813685248) (q4 : (q * c + r == a0) = true) (_q0 : -1125899906842625 ≤ q ∧ q ≤ 1125899906842625) :
    Calls Try.prog 7 #[.int .i64 a0, .int .i64 a1] w fun e w' => e = .returned (.bool true) ∧ Grown w w' := by
  go_enter Try.func7, Try.ntmps7
  go_upto_region 9 with (first | (go_at_call 17; refine (round_at _ _ v 0 _ H (by omega) (by omega) (by omega) (by omega)).mono ?_; rintro e w' ⟨rfl, ⟨n1, rfl⟩⟩) | (go_at_call 21; (first | (with_reducible refine (rounds_yes _ _ _ _ H1 (by omega) (by omega) (by omega) (by omega)).mono ?_) | (with_reducible refine (rounds_yes _ _ _ _ H2 (by omega) (by omega) (by omega) (by omega)).mono ?_)); rintro e w' ⟨rfl, ⟨n1, rfl⟩⟩))
  go_cut [95] (fun s wx => s = .bool false ∧ ∃ n, wx = w.drewN n)
  case first =>
    clear t q1 _q2 q5 q3 q4 r1 r2 hp l3 l4 H H1 H2 HF
    go_wp2
    all_goals (go_meet; first | exact ⟨rfl, _, rfl⟩ | exact ⟨bool_no (by omega) (by omega), _, rfl⟩)
  case rest =>
    obtain ⟨rfl, n2, rfl⟩ := hcut
    clear H H1 H2 hmx hmy l1 _l2 l5
    go_upto_region 12 with (fail)
    go_cut [126] (fun s wx => s = .bool false ∧ ∃ n, wx = w.drewN n)
    case first =>
      clear q1 _q2 q5 q3 q4 r1 r2 HF hdt _hdc
      rcases t with ⟨t1, t2⟩ | ⟨t1, t2, t3⟩ | ⟨t1, t2⟩
      all_goals
        go_wp2
        all_goals (go_meet; first | exact ⟨rfl, _, rfl⟩ | exact ⟨bool_no (by omega) (by omega), _, rfl⟩)
    case rest =>
      obtain ⟨rfl, n3, rfl⟩ := hcut
      clear t hp l3 l4
      go_wp2_with (first | (go_at_call 19; refine (floor_at _ _ q r 0 _ HF).mono ?_; rintro e w' ⟨rfl, ⟨n1, rfl⟩⟩) | (go_at_call 14; refine (awake_any _).mono ?_; rintro e w' ⟨rfl, ⟨n1, rfl⟩⟩))
      go_ret
      exact ⟨rfl, by repeat (first | exact Grown.refl _ | apply grown_drewN | apply Grown.alloc)⟩
theorem run_abs {P : Program} {w : World} (ts : Array TypeId) (t : TypeId) (x : Int) :
    (Builtin.max_ ts t #[.int .i64 x, .int .i64 (-x)]).run P w = .ok (.int .i64 (x.natAbs : Int)) w := by
  rw [run_max_int2, show (if -x > x then -x else x) = (x.natAbs : Int) by split <;> omega]
theorem NumNearest_walk (a0 a1 : Int) (b0 : -9223372036854775808 ≤ a0 ∧ a0 ≤ 9223372036854775807) (b1 : -9223372036854775808 ≤ a1 ∧ a1 ≤ 9223372036854775807) (w : World) :
    Calls Try.prog 7 #[.int .i64 a0, .int .i64 a1] w fun e w' => e = .returned (.bool true) ∧ Grown w w' := by
  by_cases h : smallB a0 = false ∨ smallB a1 = false
  · exact NumNearest_range a0 a1 w b0 b1 h
  · have ha : smallB a0 = true := Bool.of_not_eq_false fun x => h (Or.inl x)
    have hb : smallB a1 = true := Bool.of_not_eq_false fun x => h (Or.inr x)
    have a0' := (small_iff a0).1 ha
    have a1' := (small_iff a1).1 hb
    by_cases hz : a1 = 0
    · subst hz
      exact NumNearest_zero a0 w ha
    · obtain ⟨t, ⟨l3, l4⟩, ⟨l1, l2⟩, hp, ⟨q1, q2⟩, hdc, ⟨r1, r2⟩, q4⟩ := nearest_facts ha hb hz rfl rfl rfl
      have hc : (1 : Int) ≤ (a1.natAbs : Int) ∧ (a1.natAbs : Int) ≤ 1125899906842624 := by omega
      have hd : (0 : Int) ≤ (a0.natAbs : Int) ∧ (a0.natAbs : Int) ≤ 1125899906842624 := by omega
      have hf := floor_ok ha ((small_iff (a1.natAbs : Int)).2 (by omega)) hc.1
      have he : (a0.natAbs : Int).tdiv (a1.natAbs : Int) = (a0.natAbs : Int) / (a1.natAbs : Int) := Int.tdiv_eq_ediv_of_nonneg hd.1
      have hv : -1125899906842624 ≤ roundV a0 a1 ∧ roundV a0 a1 ≤ 1125899906842624 := by
        have ho := (round_ok ha hb hz).2
        rw [ho]
        by_cases hn : a1 < 0
        · rw [if_pos hn]; exact near_bd _ _ _ (by omega) (by omega) (by omega)
        · rw [if_neg hn]; exact near_bd _ _ _ (by omega) (by omega) (by omega)
      exact NumNearest_core a0 a1 (roundV a0 a1) (a1.natAbs : Int) (a0.natAbs : Int) (a0 / (a1.natAbs : Int)) (a0 % (a1.natAbs : Int)) w a0' a1' (beq_eq_false_iff_ne.2 hz) (Lib.hid ⟨rfl, (round_ok ha hb hz).1⟩) (Lib.hid (roundV_negL ha hb hz)) (Lib.hid (roundV_negR ha hb hz))
        (Lib.hid ⟨hf.2.1, hf.2.2, hf.1⟩) (fun _ ts t => run_abs ts t a1) (fun _ ts t => run_abs ts t a0) hc hd hv hdc (by rw [he]; exact hdc) (by rw [he]; exact l1) l2 (by rw [he]; exact l2) hp l3 l4 t r1 r2 (by rw [he]; exact q1) q2 (by rw [he]; exact q2)
        (by generalize a0 / (a1.natAbs : Int) * (a1.natAbs : Int) = x at *; omega) (beq_iff_eq.2 q4) (by omega)

set_option maxRecDepth 100000 in
theorem NumNearest_lifted (os : Os) (started : os.Started) (H : Type) (enc : TypeId × Value → H) :
    ReturnsInHanded {} Try.checked os 7 .any (Rows.numNearestSpec.pre6 enc Try.prog Try.f7 Rows.numNearestRow.domain false) (Rows.numNearestSpec.post enc Try.prog Try.f7 false true false false) := by
  refine returnsInHanded_of_change (C := Try.checked) own started (by kernel_rfl) Try.func7
    (ChangeSpec.witness6 (enc := enc) (C := Try.checked) false ⟨#[], #[.int .i64 0, .int .i64 0], []⟩ 8 (by kernel_rfl) (by kernel_rfl) (by kernel_rfl) (by kernel_rfl)) ?_
  intro W base args ds gs before hval0 hW hcnd _
  have hval : ∀ (j : Nat) t v, Try.f7.params[j]? = some t → args[j]? = some v → Value.okWide Try.prog W .any base t v := hval0
  have hW' := hW
  obtain ⟨p, q, hA0, hV, rfl, hfz, hnd⟩ := hW
  have hA : DataW.TrodAll enc Try.prog W 0 (fun _ => true) true Try.f7.params.toList args.toList ds p := hA0
  rw [Try.params7] at hA hval
  obtain ⟨v0, vs0, d0, ds0, p0, q0, hargs, rfl, rfl, h0, r0⟩ := trodAll_cons hA
  obtain ⟨v1, vs1, d1, ds1, p1, q1, rfl, rfl, rfl, h1, r1⟩ := trodAll_cons r0
  obtain ⟨rfl, rfl, rfl⟩ := trodAll_nil r1
  obtain rfl : args = #[v0, v1] := by cases args; simp_all
  obtain ⟨rfl, rfl⟩ := trodVars_none hV
  obtain ⟨a0, rfl, rfl, rfl, wa0⟩ := open_int Try.underlying3 (hval 0 3 v0 rfl rfl) h0
  obtain ⟨a1, rfl, rfl, rfl, wa1⟩ := open_int Try.underlying3 (hval 1 3 v1 rfl rfl) h1
  clear hA0 hval0
  simp only [List.append_nil] at hW'
  refine (NumNearest_walk a0 a1 (wf_bd wa0) (wf_bd wa1) W).mono fun e W' ⟨he, hg⟩ => ?_
  subst he
  exact ⟨_, rfl, post_of_same (pa := []) (pv := []) hW' (fun _ _ _ => (trodAll_cons_mk (shut_bool Try.underlying4 _) trodAll_mk0)) (fun sp _ => (trodAll_cons_mk (shut_int Try.underlying3 wa0) (trodAll_cons_mk (shut_int Try.underlying3 wa1) trodAll_mk0))) (fun _ _ => rfl) rfl
    (hg.frame _) hg.2.1 (ok_one (by kernel_rfl) rfl (okWide_bool_mk Try.underlying4 _))⟩
theorem NumNearest_holds : Rows.NumNearestSaid :=
  OpenClaim.holds_of_wide 7 Try.f7 rfl rfl rfl rfl rfl rfl rfl ⟨rfl, rfl, rfl, rfl, rfl⟩ rfl rfl rfl rfl rfl (by kernel_rfl) Try.func7 (by kernel_rfl)
    (of_decide_eq_true (by kernel_rfl)) (by unfold Func.isWrapper; first | (rw [if_pos (by decide +kernel)]; kernel_rfl) | (rw [if_neg (by decide +kernel)]; exact ⟨rfl, rfl⟩))
    (fun os started H enc _ => NumNearest_lifted os started H enc)
#print axioms NumNearest_holds
end Go.Proofs.Ytajookopcijakaa.NumW
