/-
  Walks of Between and of small functions of the specification of package angle: what each call returns for every input. Condition: none.
-/
import Derived.Test.YtcchenfagkohdaaDoorAngleB
namespace Go.Proofs.YtcchenfagkohdaaDoor.AngW
open Go.ChangeShapes Go.WideShapes Go.ChangeAt Go.RowKit
open NumP NumW AngP

theorem through_at (a x : Int) (t : Bool) (w : World) (H : Hid (through a x = t)) (h0 : -1000 ≤ x - a) (h1 : x - a ≤ 1000) :
    Calls Tryd.prog 29 #[.int .i64 a, .int .i64 x] w fun e w' => e = .returned (.bool t) ∧ w = w' := by
  have hi := through_iff a x
  rw [H.out] at hi
  obtain ⟨n, hn⟩ : ∃ n, (x - a) % 256 = n := ⟨_, rfl⟩
  rw [hn] at hi
  have hb : 0 ≤ n ∧ n ≤ 255 := by omega
  have HN := Lib.hid hn
  clear hn
  cases t
  · have c : n < 1 ∨ ¬ n < 1 ∧ 127 < n := by simp at hi; omega
    clear hi
    rcases c with c | ⟨c, c2⟩
    all_goals
      go_enter Tryd.func29, Tryd.ntmps29
      go_wp2_with (go_at_call 25; refine (rnorm_at _ _ _ HN).mono ?_; rintro e w' ⟨rfl, rfl⟩)
      go_ret
      first | exact ⟨rfl, rfl⟩ | exact ⟨ret_bool (decide_eq_false (by omega)), rfl⟩
  · have c : 1 ≤ n ∧ n ≤ 127 := by simpa using hi
    clear hi
    obtain ⟨c1, c2⟩ := c
    go_enter Tryd.func29, Tryd.ntmps29
    go_wp2_with (go_at_call 25; refine (rnorm_at _ _ _ HN).mono ?_; rintro e w' ⟨rfl, rfl⟩)
    go_ret
    exact ⟨rfl, rfl⟩

/-! ### What the tests of Between have to know, case by case -/
theorem ne_of_beq {a b : Int} (h : ¬ a = b) : (a == b) = false := beq_eq_false_iff_ne.2 h
/-- The half turn's two ways: which angle decides, and what it says. -/
theorem half_cases (a b s : Int) : ((a == s) = true ∨ (a == s) = false ∧ (b == s) = true) ∧ halfV a b s = (if through a 0 = true then 128 else -128) ∨ (a == s) = false ∧ (b == s) = false ∧ halfV a b s = (if through a s = true then 128 else -128) := by
  unfold halfV
  by_cases c : a = s
  · exact Or.inl ⟨Or.inl (beq_iff_eq.2 c), by rw [if_pos (show a = s ∨ b = s from Or.inl c)]⟩
  · by_cases c2 : b = s
    · exact Or.inl ⟨Or.inr ⟨ne_of_beq c, beq_iff_eq.2 c2⟩, by rw [if_pos (show a = s ∨ b = s from Or.inr c2)]⟩
    · exact Or.inr ⟨ne_of_beq c, ne_of_beq c2, by rw [if_neg (show ¬ (a = s ∨ b = s) from fun h => h.elim c c2)]⟩

set_option maxRecDepth 100000 in
set_option maxHeartbeats 2000000 in
theorem rbet_range (a b s : Int) (w : World) (h : wayOk a b = false) :
    Calls Tryd.prog 19 #[.int .i64 a, .int .i64 b, .int .i64 s] w fun e w' => e = .returned (.tuple #[.int .i64 (betV a b s), .int .i64 (betE a b s)]) ∧ w = w' := by
  have hb := bet_range (s := s) h
  rw [hb.1, hb.2]
  rw [wayOk_no] at h
  have t : a < 0 ∨ ¬ a < 0 ∧ 255 < a ∨ ¬ a < 0 ∧ ¬ 255 < a ∧ b < 0 ∨ ¬ a < 0 ∧ ¬ 255 < a ∧ ¬ b < 0 ∧ 255 < b := by omega
  clear h hb
  rcases t with t | ⟨t, t1⟩ | ⟨t, t1, t2⟩ | ⟨t, t1, t2, t3⟩
  all_goals
    go_enter Tryd.func19, Tryd.ntmps19
    go_wp2_with (fail)
    go_ret2
    exact ⟨rfl, rfl⟩
set_option maxRecDepth 100000 in
set_option maxHeartbeats 2000000 in
theorem rbet_kind (a b s : Int) (w : World) (h : wayOk a b = true) (hs : sideOk s = false) :
    Calls Tryd.prog 19 #[.int .i64 a, .int .i64 b, .int .i64 s] w fun e w' => e = .returned (.tuple #[.int .i64 (betV a b s), .int .i64 (betE a b s)]) ∧ w = w' := by
  have hb := bet_kind h hs
  rw [hb.1, hb.2]
  obtain ⟨h0, h1⟩ := (wayOk_iff a b).1 h
  obtain ⟨c1, c2⟩ := (sideOk_no s).1 hs
  have d1 : (s != 64) = true := bne_iff_ne.2 c1
  have d2 : (s != 192) = true := bne_iff_ne.2 c2
  clear h hb hs c1 c2
  go_enter Tryd.func19, Tryd.ntmps19
  go_wp2_with (fail)
  go_ret2
  exact ⟨rfl, rfl⟩
set_option maxRecDepth 100000 in
set_option maxHeartbeats 4000000 in
theorem rbet_good (a b s : Int) (w : World) (h : wayOk a b = true) (hs : sideOk s = true) :
    Calls Tryd.prog 19 #[.int .i64 a, .int .i64 b, .int .i64 s] w fun e w' => e = .returned (.tuple #[.int .i64 (betV a b s), .int .i64 (betE a b s)]) ∧ w = w' := by
  have hb := bet_ok h hs
  rw [hb.1, hb.2]
  obtain ⟨h0, h1⟩ := (wayOk_iff a b).1 h
  have hs' := (sideOk_iff s).1 hs
  obtain ⟨d, hd⟩ : ∃ d, (b - a) % 256 = d := ⟨_, rfl⟩
  have hw : wayV a b s = if d < 128 then d else if 128 < d then d - 256 else halfV a b s := by unfold wayV; rw [hd]
  have d0 : 0 ≤ d ∧ d ≤ 255 := by omega
  have HD := Lib.hid hd
  have sd : ((s != 64) = false ∨ (s != 64) = true ∧ (s != 192) = false) ∧ 0 ≤ s ∧ s ≤ 255 := by
    rcases hs' with rfl | rfl
    · exact ⟨Or.inl rfl, by decide, by decide⟩
    · exact ⟨Or.inr ⟨rfl, rfl⟩, by decide, by decide⟩
  obtain ⟨ss, s0, s1⟩ := sd
  clear h hb hs hs' hd
  rw [hw]
  clear hw
  by_cases c1 : d < 128
  · rw [if_pos c1]
    rcases ss with ss | ⟨ss, ss2⟩
    all_goals
      go_enter Tryd.func19, Tryd.ntmps19
      go_wp2_with (go_at_call 25; refine (rnorm_at _ _ _ HD).mono ?_; rintro e w' ⟨rfl, rfl⟩)
      go_ret2
      exact ⟨rfl, rfl⟩
  · rw [if_neg c1]
    by_cases c2 : 128 < d
    · rw [if_pos c2]
      rcases ss with ss | ⟨ss, ss2⟩
      all_goals
        go_enter Tryd.func19, Tryd.ntmps19
        go_wp2_with (go_at_call 25; refine (rnorm_at _ _ _ HD).mono ?_; rintro e w' ⟨rfl, rfl⟩)
        go_ret2
        exact ⟨rfl, rfl⟩
    · rw [if_neg c2]
      rcases half_cases a b s with ⟨e1 | ⟨e1, e2⟩, hv⟩ | ⟨e1, e2, hv⟩
      all_goals
        rw [hv]
        clear hv
      · obtain ⟨t, ht⟩ : ∃ t, through a 0 = t := ⟨_, rfl⟩
        rw [ht]
        have HT := Lib.hid ht
        clear ht
        rcases ss with ss | ⟨ss, ss2⟩
        all_goals
          cases t
          all_goals
            go_enter Tryd.func19, Tryd.ntmps19
            go_wp2_with (first | (go_at_call 25; refine (rnorm_at _ _ _ HD).mono ?_; rintro e w' ⟨rfl, rfl⟩) | (go_at_call 29; refine (through_at _ _ _ _ HT (by omega) (by omega)).mono ?_; rintro e w' ⟨rfl, rfl⟩))
            go_ret2
            exact ⟨rfl, rfl⟩
      · obtain ⟨t, ht⟩ : ∃ t, through a 0 = t := ⟨_, rfl⟩
        rw [ht]
        have HT := Lib.hid ht
        clear ht
        rcases ss with ss | ⟨ss, ss2⟩
        all_goals
          cases t
          all_goals
            go_enter Tryd.func19, Tryd.ntmps19
            go_wp2_with (first | (go_at_call 25; refine (rnorm_at _ _ _ HD).mono ?_; rintro e w' ⟨rfl, rfl⟩) | (go_at_call 29; refine (through_at _ _ _ _ HT (by omega) (by omega)).mono ?_; rintro e w' ⟨rfl, rfl⟩))
            go_ret2
            exact ⟨rfl, rfl⟩
      · obtain ⟨t, ht⟩ : ∃ t, through a s = t := ⟨_, rfl⟩
        rw [ht]
        have HT := Lib.hid ht
        clear ht
        rcases ss with ss | ⟨ss, ss2⟩
        all_goals
          cases t
          all_goals
            go_enter Tryd.func19, Tryd.ntmps19
            go_wp2_with (first | (go_at_call 25; refine (rnorm_at _ _ _ HD).mono ?_; rintro e w' ⟨rfl, rfl⟩) | (go_at_call 29; refine (through_at _ _ _ _ HT (by omega) (by omega)).mono ?_; rintro e w' ⟨rfl, rfl⟩))
            go_ret2
            exact ⟨rfl, rfl⟩
theorem rbet_any (a b s : Int) (w : World) :
    Calls Tryd.prog 19 #[.int .i64 a, .int .i64 b, .int .i64 s] w fun e w' => e = .returned (.tuple #[.int .i64 (betV a b s), .int .i64 (betE a b s)]) ∧ w = w' := by
  by_cases h : wayOk a b = true
  · by_cases hs : sideOk s = true
    · exact rbet_good a b s w h hs
    · exact rbet_kind a b s w h (Bool.of_not_eq_true hs)
  · exact rbet_range a b s w (Bool.of_not_eq_true h)
end Go.Proofs.YtcchenfagkohdaaDoor.AngW
