/-
  Walks of the functions of package angle: what each call returns for every input. Condition: the table of sines lies in memory (Tab), which every start of the program gives.
-/
import Derived.Test.YtbcoknlkncnmfaaDoorAngleFrame
import Derived.Test.YtbcoknlkncnmfaaDoorAngleD
import Derived.Test.YtbcoknlkncnmfaaDoorNumD
import Derived.BigQuiet
namespace Go.Proofs.YtbcoknlkncnmfaaDoor.AngW
open Go.ChangeShapes Go.WideShapes Go.ChangeAt Go.RowKit
open NumP NumW AngP

theorem tab_grown {w w' : World} (h : Tab w) (hg : Grown w w') : Tab w' := ⟨fun k hk => grown_cell hg (h.cell k hk)⟩

theorem and255 (n : Int) : bits .and .i64 n 255 = n % 256 := by
  have h255 : (BitVec.ofInt 64 255).toNat = 2 ^ 8 - 1 := by decide
  have key : (BitVec.ofInt 64 n &&& BitVec.ofInt 64 255).toNat = (n % ((2 ^ 64 : Nat) : Int)).toNat % 2 ^ 8 := by
    rw [BitVec.toNat_and, BitVec.toNat_ofInt, h255, Nat.and_two_pow_sub_one_eq_mod]
  show IntKind.i64.wrap ((BitVec.ofInt 64 n &&& BitVec.ofInt 64 255).toNat : Nat) = n % 256
  rw [key, IntKind.wrap_i64]
  omega
theorem norm_any (a : Int) (w : World) :
    Calls Tryd.prog 61 #[.int .i64 a] w fun e w' => e = .returned (.int .i64 (a % 256)) ∧ w = w' := by
  have H := Lib.hid (and255 a)
  go_enter Tryd.func61, Tryd.ntmps61
  go_wp2
  go_ret
  exact ⟨ret_int H.out, rfl⟩
theorem norm_at (a v : Int) (w : World) (H : Hid (a % 256 = v)) :
    Calls Tryd.prog 61 #[.int .i64 a] w fun e w' => e = .returned (.int .i64 v) ∧ w = w' := by
  obtain rfl := H.out
  exact norm_any a w
theorem mir_at (a v : Int) (w : World) (H : Hid ((-a) % 256 = v)) :
    Calls Tryd.prog 53 #[.int .i64 a] w fun e w' => e = .returned (.int .i64 v) ∧ w = w' := by
  have HM := Lib.hid (show (wrap64 (-a)) % 256 = v by rw [← H.out]; unfold wrap64; omega)
  go_enter Tryd.func53, Tryd.ntmps53
  go_wp2_with (go_at_call 61; refine (norm_at _ _ _ HM).mono ?_; rintro e w' ⟨rfl, rfl⟩)
  go_ret
  exact ⟨rfl, rfl⟩
theorem sin_cases' (n : Nat) (hn : n < 256) :
    n ≤ 64 ∧ tabN n = sinN n ∨ 64 < n ∧ n ≤ 128 ∧ tabN (128 - n) = sinN n ∨ 128 < n ∧ n ≤ 192 ∧ tabN (n - 128) = -sinN n ∨ 192 < n ∧ tabN (256 - n) = -sinN n := by
  unfold sinN
  by_cases h1 : n ≤ 64
  · rw [if_pos h1]; exact Or.inl ⟨h1, rfl⟩
  · rw [if_neg h1]
    by_cases h2 : n ≤ 128
    · rw [if_pos h2]; exact Or.inr (Or.inl ⟨by omega, h2, rfl⟩)
    · rw [if_neg h2]
      by_cases h3 : n ≤ 192
      · rw [if_pos h3, Int.neg_neg]; exact Or.inr (Or.inr (Or.inl ⟨by omega, h3, rfl⟩))
      · rw [if_neg h3, Int.neg_neg]; exact Or.inr (Or.inr (Or.inr ⟨by omega, rfl⟩))
set_option maxHeartbeats 1000000 in
theorem sin_core (a : Int) (n : Nat) (s : Int) (w : World) (H : Hid (a % 256 = n)) (hn : n < 256) (hs : -16384 ≤ s ∧ s ≤ 16384)
    (hc : n ≤ 64 ∧ w.cell? ⟨1, n, none⟩ = some (.int .i64 s) ∨ 64 < n ∧ n ≤ 128 ∧ w.cell? ⟨1, 128 - n, none⟩ = some (.int .i64 s) ∨ 128 < n ∧ n ≤ 192 ∧ w.cell? ⟨1, n - 128, none⟩ = some (.int .i64 (-s)) ∨ 192 < n ∧ w.cell? ⟨1, 256 - n, none⟩ = some (.int .i64 (-s))) :
    Calls Tryd.prog 82 #[.int .i64 a] w fun e w' => e = .returned (.int .i64 s) ∧ w = w' := by
  rcases hc with ⟨h1, h2⟩ | ⟨h1, h2, h3⟩ | ⟨h1, h2, h3⟩ | ⟨h1, h2⟩
  all_goals
    go_enter Tryd.func82, Tryd.ntmps82
    go_wp2_with (go_at_call 61; refine (norm_at _ _ _ H).mono ?_; rintro e w' ⟨rfl, rfl⟩)
    go_ret
    exact ⟨rfl, rfl⟩
theorem sin_at (a s : Int) (w : World) (H : Hid (sinV a = s)) (hT : Tab w) :
    Calls Tryd.prog 82 #[.int .i64 a] w fun e w' => e = .returned (.int .i64 s) ∧ w = w' := by
  obtain rfl := H.out
  obtain ⟨n, hn⟩ : ∃ n : Nat, a % 256 = n := ⟨(a % 256).toNat, by omega⟩
  have hl : n < 256 := by omega
  have e : sinV a = sinN n := by unfold sinV; rw [hn]; rfl
  refine sin_core a n (sinV a) w (Lib.hid hn) hl (sin_bd a) ?_
  rw [e]
  rcases sin_cases' n hl with ⟨h1, h2⟩ | ⟨h1, h2, h3⟩ | ⟨h1, h2, h3⟩ | ⟨h1, h2⟩
  · exact Or.inl ⟨h1, by rw [← h2]; exact hT.cell _ (by omega)⟩
  · exact Or.inr (Or.inl ⟨h1, h2, by rw [← h3]; exact hT.cell _ (by omega)⟩)
  · exact Or.inr (Or.inr (Or.inl ⟨h1, h2, by rw [← h3]; exact hT.cell _ (by omega)⟩))
  · exact Or.inr (Or.inr (Or.inr ⟨h1, by rw [← h2]; exact hT.cell _ (by omega)⟩))
theorem cos_at (a c : Int) (w : World) (H : Hid (cosV a = c)) (hT : Tab w) :
    Calls Tryd.prog 83 #[.int .i64 a] w fun e w' => e = .returned (.int .i64 c) ∧ w = w' := by
  obtain ⟨n, hn⟩ : ∃ n, a % 256 = n := ⟨_, rfl⟩
  have H1 := Lib.hid hn
  have h1 : 0 ≤ n ∧ n < 256 := by omega
  have H2 := Lib.hid (show sinV (n + 64) = c by rw [← hn]; exact H.out)
  clear hn
  go_enter Tryd.func83, Tryd.ntmps83
  go_wp2_with (first
    | (go_at_call 61; refine (norm_at _ _ _ H1).mono ?_; rintro e w' ⟨rfl, rfl⟩)
    | (go_at_call 82; refine (sin_at _ _ _ H2 hT).mono ?_; rintro e w' ⟨rfl, rfl⟩))
  go_ret
  exact ⟨rfl, rfl⟩

/-! ### Turned -/
def floorB (n : Int) : Bool := decide (-32768 ≤ n) && decide (n ≤ 32768)
theorem floor_iff (n : Int) : floorB n = true ↔ -32768 ≤ n ∧ n ≤ 32768 := by unfold floorB; rw [Bool.and_eq_true, decide_eq_true_eq, decide_eq_true_eq]
theorem floor_at (n : Int) (t : Bool) (w : World) (H : Hid (floorB n = t)) :
    Calls Tryd.prog 81 #[.int .i64 n] w fun e w' => e = .returned (.bool t) ∧ w = w' := by
  have hi := floor_iff n
  rw [H.out] at hi
  clear H
  by_cases h1 : -32768 ≤ n
  · by_cases h2 : n ≤ 32768
    · obtain rfl : t = true := hi.2 ⟨h1, h2⟩
      clear hi
      go_enter Tryd.func81, Tryd.ntmps81
      go_wp2
      go_ret
      exact ⟨ret_bool (by simp), rfl⟩
    · obtain rfl : t = false := by cases t <;> simp at hi ⊢; omega
      clear hi
      go_enter Tryd.func81, Tryd.ntmps81
      go_wp2
      go_ret
      exact ⟨ret_bool (by simp), rfl⟩
  · obtain rfl : t = false := by cases t <;> simp at hi ⊢; omega
    clear hi
    go_enter Tryd.func81, Tryd.ntmps81
    go_wp2
    go_ret
    exact ⟨ret_bool (by simp), rfl⟩

set_option maxRecDepth 100000 in
set_option maxHeartbeats 2000000 in
theorem tur_core (x y a c s u v : Int) (w : World) (h : -32768 ≤ x ∧ x ≤ 32768) (h2 : -32768 ≤ y ∧ y ≤ 32768) (HC : Hid (cosV a = c)) (HS : Hid (sinV a = s)) (hT : Tab w)
    (b1 : -536870912 ≤ x * c ∧ x * c ≤ 536870912) (b2 : -536870912 ≤ y * s ∧ y * s ≤ 536870912) (b3 : -536870912 ≤ y * c ∧ y * c ≤ 536870912) (b4 : -536870912 ≤ x * s ∧ x * s ≤ 536870912)
    (HX : Hid (roundV (x * c + y * s) 16384 = u ∧ roundE (x * c + y * s) 16384 = 0)) (HY : Hid (roundV (y * c - x * s) 16384 = v ∧ roundE (y * c - x * s) 16384 = 0)) :
    Calls Tryd.prog 77 #[.agg #[.int .i64 x, .int .i64 y], .int .i64 a] w fun e w' => e = .returned (.tuple #[.agg #[.int .i64 u, .int .i64 v], .int .i64 0]) ∧ Grown w w' := by
  have hg2 : ∀ (A B : Array Value) (t t' : TypeId), Tab ((w.alloc (.cells A t)).alloc (.cells B t')) := fun _ _ _ _ => tab_grown hT (((Grown.refl w).alloc _ _).alloc _ _)
  have HG2 := Lib.hid hg2
  have F1 := Lib.hid ((floor_iff x).2 h)
  have F2 := Lib.hid ((floor_iff y).2 h2)
  clear hg2
  go_enter Tryd.func77, Tryd.ntmps77
  go_wp2_with (first
    | (go_at_call 81; (first | (with_reducible refine (floor_at x true _ F1).mono ?_) | (with_reducible refine (floor_at y true _ F2).mono ?_)); rintro e w' ⟨rfl, rfl⟩)
    | (go_at_call 82; refine (sin_at _ s _ HS (HG2.out _ _ _ _)).mono ?_; rintro e w' ⟨rfl, rfl⟩)
    | (go_at_call 83; refine (cos_at _ c _ HC (HG2.out _ _ _ _)).mono ?_; rintro e w' ⟨rfl, rfl⟩)
    | (go_at_call 84; (first | (with_reducible refine (round_at (x * c + y * s) 16384 u 0 _ HX (by omega) (by omega) (by omega) (by omega)).mono ?_) | (with_reducible refine (round_at (y * c - x * s) 16384 v 0 _ HY (by omega) (by omega) (by omega) (by omega)).mono ?_)); rintro e w' ⟨rfl, ⟨n1, rfl⟩⟩))
  exact bodyPost_ret (v := .tuple #[.agg #[.int .i64 u, .int .i64 v], .int .i64 0]) (by simp [results, Tryd.results77, go_sem]) rfl ⟨rfl, by repeat (first | exact Grown.refl _ | apply grown_drewN | apply Grown.alloc | refine Grown.setCell ?_ (by simp) _)⟩
set_option maxHeartbeats 2000000 in
theorem tur_bad (x y a : Int) (w : World) (h : inMM x y = false) :
    Calls Tryd.prog 77 #[.agg #[.int .i64 x, .int .i64 y], .int .i64 a] w fun e w' => e = .returned (.tuple #[.agg #[.int .i64 0, .int .i64 0], .int .i64 1]) ∧ Grown w w' := by
  have hx := floor_iff x
  have hy := floor_iff y
  rw [inMM_no] at h
  obtain ⟨p, hp⟩ : ∃ p, floorB x = p := ⟨_, rfl⟩
  obtain ⟨q, hq⟩ : ∃ q, floorB y = q := ⟨_, rfl⟩
  rw [hp] at hx
  rw [hq] at hy
  have F1 := Lib.hid hp
  have F2 := Lib.hid hq
  have t : p = false ∨ p = true ∧ q = false := by
    cases p
    · exact Or.inl rfl
    · cases q
      · exact Or.inr ⟨rfl, rfl⟩
      · have := hx.1 rfl
        have := hy.1 rfl
        omega
  clear h hx hy hp hq
  rcases t with rfl | ⟨rfl, rfl⟩
  all_goals
    go_enter Tryd.func77, Tryd.ntmps77
    go_wp2_with (go_at_call 81; (first | (with_reducible refine (floor_at x _ _ F1).mono ?_) | (with_reducible refine (floor_at y _ _ F2).mono ?_)); rintro e w' ⟨rfl, rfl⟩)
    exact bodyPost_ret (v := .tuple #[.agg #[.int .i64 0, .int .i64 0], .int .i64 1]) (by simp [results, Tryd.results77, go_sem]) rfl ⟨rfl, ((Grown.refl w).alloc _ _).alloc _ _⟩
theorem tur_any (x y a : Int) (w : World) (hT : Tab w) :
    Calls Tryd.prog 77 #[.agg #[.int .i64 x, .int .i64 y], .int .i64 a] w fun e w' => e = .returned (.tuple #[.agg #[.int .i64 (turU x y a), .int .i64 (turV x y a)], .int .i64 (turE x y)]) ∧ Grown w w' := by
  unfold turU turV turE
  by_cases h : inMM x y = true
  · rw [if_pos h, if_pos h, if_pos h]
    obtain ⟨b1, b2, b3, b4⟩ := tur_bds h a
    obtain ⟨h1, h2⟩ := (inMM_iff x y).1 h
    exact tur_core x y a (cosV a) (sinV a) (turX x y a) (turY x y a) w h1 h2 (Lib.hid rfl) (Lib.hid rfl) hT b1 b2 b3 b4
      (Lib.hid (near_round (by generalize x * cosV a = p at *; generalize y * sinV a = q at *; omega))) (Lib.hid (near_round (by generalize y * cosV a = p at *; generalize x * sinV a = q at *; omega)))
  · rw [if_neg h, if_neg h, if_neg h]
    exact tur_bad x y a w (Bool.of_not_eq_true h)
theorem tur_at (x y a u v f : Int) (w : World) (H : Hid (turU x y a = u ∧ turV x y a = v ∧ turE x y = f)) (hT : Tab w) :
    Calls Tryd.prog 77 #[.agg #[.int .i64 x, .int .i64 y], .int .i64 a] w fun e w' => e = .returned (.tuple #[.agg #[.int .i64 u, .int .i64 v], .int .i64 f]) ∧ Grown w w' := by
  obtain ⟨rfl, rfl, rfl⟩ := H.out
  exact tur_any x y a w hT
end Go.Proofs.YtbcoknlkncnmfaaDoor.AngW
