/-
  Walks of Between of the program: what a call returns for every input. Condition: none.
-/
import Derived.Test.YtmjokgddhainlaaAngBase
namespace Go.Proofs.Ytmjokgddhainlaa.AngW
open Go.ChangeShapes Go.WideShapes Go.ChangeAt Go.RowKit
open NumP NumW AngP

/-- The angle that decides between the ways of a half turn. -/
def decV (a b s : Int) : Int := if a = s ∨ b = s then 0 else s
/-- Whether the clockwise half turn from a passes through x. -/
def passB (a x : Int) : Bool := decide ((x - a) % 256 < 128)
theorem thr_at (a b s x : Int) (w : World) (H : Hid (decV a b s = x)) :
    Calls Try.prog 80 #[.int .i64 a, .int .i64 b, .int .i64 s] w fun e w' => e = .returned (.int .i64 x) ∧ w = w' := by
  have hx := H.out
  clear H
  unfold decV at hx
  by_cases c : a = s
  · rw [if_pos (Or.inl c)] at hx
    subst hx
    have c1 : (a == s) = true := beq_iff_eq.2 c
    clear c
    go_enter Try.func80, Try.ntmps80
    go_wp2
    go_ret
    exact ⟨rfl, rfl⟩
  · have c1 : (a == s) = false := beq_eq_false_iff_ne.2 c
    by_cases d : b = s
    · rw [if_pos (Or.inr d)] at hx
      subst hx
      have d1 : (b == s) = true := beq_iff_eq.2 d
      clear c d
      go_enter Try.func80, Try.ntmps80
      go_wp2
      go_ret
      exact ⟨rfl, rfl⟩
    · rw [if_neg (fun h => h.elim c d)] at hx
      subst hx
      have d1 : (b == s) = false := beq_eq_false_iff_ne.2 d
      clear c d
      go_enter Try.func80, Try.ntmps80
      go_wp2
      go_ret
      exact ⟨rfl, rfl⟩
theorem pas_at (a x : Int) (t : Bool) (w : World) (H : Hid (passB a x = t)) (h0 : -1000 ≤ x - a) (h1 : x - a ≤ 1000) :
    Calls Try.prog 79 #[.int .i64 a, .int .i64 x] w fun e w' => e = .returned (.bool t) ∧ w = w' := by
  have hp := H.out
  clear H
  unfold passB at hp
  obtain ⟨n, hn⟩ : ∃ n, (x - a) % 256 = n := ⟨_, rfl⟩
  rw [hn] at hp
  have HN := Lib.hid hn
  have HP := Lib.hid hp
  clear hn hp
  go_enter Try.func79, Try.ntmps79
  go_wp2_with (go_at_call 47; refine (norm_at _ _ _ HN).mono ?_; rintro e w' ⟨rfl, rfl⟩)
  go_ret
  exact ⟨ret_bool HP.out, rfl⟩
/-- What the half turn's choice gives is what the specification's gives. -/
theorem half_pass {a b s : Int} (ha : 0 ≤ a ∧ a ≤ 255) (hb : 0 ≤ b ∧ b ≤ 255) (hs : s = 64 ∨ s = 192) (h : (b - a) % 256 = 128) : halfV a b s = if passB a (decV a b s) = true then 128 else -128 := by
  have hi := through_iff a (if a = s ∨ b = s then 0 else s)
  unfold halfV passB decV
  generalize hx : (if a = s ∨ b = s then (0 : Int) else s) = x at *
  have hx' : (a = s ∨ b = s) ∧ x = 0 ∨ (a ≠ s ∧ b ≠ s) ∧ x = s := by
    by_cases c : a = s ∨ b = s
    · rw [if_pos c] at hx; exact Or.inl ⟨c, hx.symm⟩
    · rw [if_neg c] at hx; exact Or.inr ⟨⟨fun e => c (Or.inl e), fun e => c (Or.inr e)⟩, hx.symm⟩
  clear hx
  by_cases t : through a x = true
  · have h1 := hi.1 t
    rw [if_pos t, if_pos (decide_eq_true (by omega))]
  · have h1 : ¬ (1 ≤ (x - a) % 256 ∧ (x - a) % 256 ≤ 127) := fun e => t (hi.2 e)
    rw [if_neg t, if_neg (fun e => absurd (of_decide_eq_true e) (by omega))]
/-- Which angles are their own norm. -/
theorem norm_ne {a : Int} (h : ¬ (0 ≤ a ∧ a ≤ 255)) : (a % 256 != a) = true := bne_iff_ne.2 (by omega)
theorem norm_eq {a : Int} (h : 0 ≤ a ∧ a ≤ 255) : (a % 256 != a) = false := by
  have : a % 256 = a := by omega
  rw [this]
  exact bne_self_eq_false a

set_option maxRecDepth 100000 in
set_option maxHeartbeats 2000000 in
theorem pbet_range (a b s : Int) (w : World) (h : wayOk a b = false) :
    Calls Try.prog 77 #[.int .i64 a, .int .i64 b, .int .i64 s] w fun e w' => e = .returned (.tuple #[.int .i64 (betV a b s), .int .i64 (betE a b s)]) ∧ w = w' := by
  have hb := bet_range (s := s) h
  rw [hb.1, hb.2]
  rw [wayOk_no] at h
  obtain ⟨m, hm⟩ : ∃ m, a % 256 = m := ⟨_, rfl⟩
  obtain ⟨n, hn⟩ : ∃ n, b % 256 = n := ⟨_, rfl⟩
  have t : (m != a) = true ∨ (m != a) = false ∧ (n != b) = true := by
    by_cases c : 0 ≤ a ∧ a ≤ 255
    · exact Or.inr ⟨by rw [← hm]; exact norm_eq c, by rw [← hn]; exact norm_ne (by omega)⟩
    · exact Or.inl (by rw [← hm]; exact norm_ne c)
  have HA := Lib.hid hm
  have HB := Lib.hid hn
  clear h hb hm hn
  rcases t with t | ⟨t, t1⟩
  all_goals
    go_enter Try.func77, Try.ntmps77
    go_wp2_with (go_at_call 47; (first | (with_reducible refine (norm_at a _ _ HA).mono ?_) | (with_reducible refine (norm_at b _ _ HB).mono ?_)); rintro e w' ⟨rfl, rfl⟩)
    go_ret2
    exact ⟨rfl, rfl⟩
set_option maxRecDepth 100000 in
set_option maxHeartbeats 2000000 in
theorem pbet_kind (a b s : Int) (w : World) (h : wayOk a b = true) (hs : sideOk s = false) :
    Calls Try.prog 77 #[.int .i64 a, .int .i64 b, .int .i64 s] w fun e w' => e = .returned (.tuple #[.int .i64 (betV a b s), .int .i64 (betE a b s)]) ∧ w = w' := by
  have hb := bet_kind h hs
  rw [hb.1, hb.2]
  obtain ⟨h0, h1⟩ := (wayOk_iff a b).1 h
  obtain ⟨c1, c2⟩ := (sideOk_no s).1 hs
  have d1 : (s != 64) = true := bne_iff_ne.2 c1
  have d2 : (s != 192) = true := bne_iff_ne.2 c2
  have HA := Lib.hid (show a % 256 = a by omega)
  have HB := Lib.hid (show b % 256 = b by omega)
  clear h hb hs c1 c2
  go_enter Try.func77, Try.ntmps77
  go_wp2_with (go_at_call 47; (first | (with_reducible refine (norm_at a _ _ HA).mono ?_) | (with_reducible refine (norm_at b _ _ HB).mono ?_)); rintro e w' ⟨rfl, rfl⟩)
  go_ret2
  exact ⟨rfl, rfl⟩
set_option maxRecDepth 100000 in
set_option maxHeartbeats 4000000 in
theorem pbet_good (a b s : Int) (w : World) (h : wayOk a b = true) (hs : sideOk s = true) :
    Calls Try.prog 77 #[.int .i64 a, .int .i64 b, .int .i64 s] w fun e w' => e = .returned (.tuple #[.int .i64 (betV a b s), .int .i64 (betE a b s)]) ∧ w = w' := by
  have hb := bet_ok h hs
  rw [hb.1, hb.2]
  obtain ⟨h0, h1⟩ := (wayOk_iff a b).1 h
  have hs' := (sideOk_iff s).1 hs
  obtain ⟨d, hd⟩ : ∃ d, (b - a) % 256 = d := ⟨_, rfl⟩
  have hw : wayV a b s = if d < 128 then d else if 128 < d then d - 256 else halfV a b s := by unfold wayV; rw [hd]
  have hh : d = 128 → halfV a b s = if passB a (decV a b s) = true then 128 else -128 := fun e => half_pass h0 h1 hs' (by rw [hd, e])
  have d0 : 0 ≤ d ∧ d ≤ 255 := by omega
  obtain ⟨x, hx⟩ : ∃ x, decV a b s = x := ⟨_, rfl⟩
  have x0 : 0 ≤ x ∧ x ≤ 255 := by
    rw [← hx]
    unfold decV
    split <;> omega
  rw [hx] at hh
  obtain ⟨t, ht⟩ : ∃ t, passB a x = t := ⟨_, rfl⟩
  rw [ht] at hh
  have HD := Lib.hid hd
  have HX := Lib.hid hx
  have HT := Lib.hid ht
  have HA := Lib.hid (show a % 256 = a by omega)
  have HB := Lib.hid (show b % 256 = b by omega)
  have sd : ((s != 64) = false ∨ (s != 64) = true ∧ (s != 192) = false) ∧ 0 ≤ s ∧ s ≤ 255 := by
    rcases hs' with rfl | rfl
    · exact ⟨Or.inl rfl, by decide, by decide⟩
    · exact ⟨Or.inr ⟨rfl, rfl⟩, by decide, by decide⟩
  obtain ⟨ss, s0, s1⟩ := sd
  clear h hb hs hs' hd hx ht
  rw [hw]
  clear hw
  by_cases c1 : d < 128
  · rw [if_pos c1]
    clear hh
    rcases ss with ss | ⟨ss, ss2⟩
    all_goals
      go_enter Try.func77, Try.ntmps77
      go_wp2_with (go_at_call 47; (first | (with_reducible refine (norm_at a _ _ HA).mono ?_) | (with_reducible refine (norm_at b _ _ HB).mono ?_) | (refine (norm_at _ _ _ HD).mono ?_)); rintro e w' ⟨rfl, rfl⟩)
      go_ret2
      exact ⟨rfl, rfl⟩
  · rw [if_neg c1]
    by_cases c2 : 128 < d
    · rw [if_pos c2]
      clear hh
      rcases ss with ss | ⟨ss, ss2⟩
      all_goals
        go_enter Try.func77, Try.ntmps77
        go_wp2_with (go_at_call 47; (first | (with_reducible refine (norm_at a _ _ HA).mono ?_) | (with_reducible refine (norm_at b _ _ HB).mono ?_) | (refine (norm_at _ _ _ HD).mono ?_)); rintro e w' ⟨rfl, rfl⟩)
        go_ret2
        exact ⟨rfl, rfl⟩
    · rw [if_neg c2, hh (by omega)]
      obtain rfl : d = 128 := by omega
      clear hh c1 c2
      rcases ss with ss | ⟨ss, ss2⟩
      all_goals
        cases t
        all_goals
          go_enter Try.func77, Try.ntmps77
          go_wp2_with (first
            | (go_at_call 47; (first | (with_reducible refine (norm_at a _ _ HA).mono ?_) | (with_reducible refine (norm_at b _ _ HB).mono ?_) | (refine (norm_at _ _ _ HD).mono ?_)); rintro e w' ⟨rfl, rfl⟩)
            | (go_at_call 80; refine (thr_at _ _ _ _ _ HX).mono ?_; rintro e w' ⟨rfl, rfl⟩)
            | (go_at_call 79; refine (pas_at _ _ _ _ HT (by omega) (by omega)).mono ?_; rintro e w' ⟨rfl, rfl⟩))
          go_ret2
          exact ⟨rfl, rfl⟩
theorem bet_any (a b s : Int) (w : World) :
    Calls Try.prog 77 #[.int .i64 a, .int .i64 b, .int .i64 s] w fun e w' => e = .returned (.tuple #[.int .i64 (betV a b s), .int .i64 (betE a b s)]) ∧ w = w' := by
  by_cases h : wayOk a b = true
  · by_cases hs : sideOk s = true
    · exact pbet_good a b s w h hs
    · exact pbet_kind a b s w h (Bool.of_not_eq_true hs)
  · exact pbet_range a b s w (Bool.of_not_eq_true h)
theorem bet_at (a b s v f : Int) (w : World) (H : Hid (betV a b s = v ∧ betE a b s = f)) :
    Calls Try.prog 77 #[.int .i64 a, .int .i64 b, .int .i64 s] w fun e w' => e = .returned (.tuple #[.int .i64 v, .int .i64 f]) ∧ w = w' := by
  obtain ⟨rfl, rfl⟩ := H.out
  exact bet_any a b s w
end Go.Proofs.Ytmjokgddhainlaa.AngW
