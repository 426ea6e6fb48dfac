/-
  Walks of the laws AngleBetween and AngleBack: each returns true for every input. Condition: the table of sines lies in memory (Tab).
-/
import Derived.Test.YtcchenfagkohdaaDoorAngleI
namespace Go.Proofs.YtcchenfagkohdaaDoor.AngW
open Go.ChangeShapes Go.WideShapes Go.ChangeAt Go.RowKit Go.Joins
open NumP NumW AngP

theorem rbet_at (a b s v f : Int) (w : World) (H : Hid (betV a b s = v ∧ betE a b s = f)) :
    Calls Tryd.prog 19 #[.int .i64 a, .int .i64 b, .int .i64 s] w fun e w' => e = .returned (.tuple #[.int .i64 v, .int .i64 f]) ∧ w = w' := by
  obtain ⟨rfl, rfl⟩ := H.out
  exact rbet_any a b s w
theorem AngleBetween_walk (a0 a1 a2 : Int) (_b0 : -9223372036854775808 ≤ a0 ∧ a0 ≤ 9223372036854775807) (_b1 : -9223372036854775808 ≤ a1 ∧ a1 ≤ 9223372036854775807) (_b2 : -9223372036854775808 ≤ a2 ∧ a2 ≤ 9223372036854775807) (w : World) (hT : Tab w) :
    Calls Tryd.prog 6 #[.int .i64 a0, .int .i64 a1, .int .i64 a2] w fun e w' => e = .returned (.bool true) ∧ Grown w w' := by
  clear _b0 _b1 _b2
  obtain ⟨v, hv⟩ : ∃ v, betV a0 a1 a2 = v := ⟨_, rfl⟩
  obtain ⟨f, hf⟩ : ∃ f, betE a0 a1 a2 = f := ⟨_, rfl⟩
  have H := Lib.hid (show betV a0 a1 a2 = v ∧ betE a0 a1 a2 = f from ⟨hv, hf⟩)
  clear hv hf
  go_enter Tryd.func6, Tryd.ntmps6
  go_wp2_with (first
    | (go_at_call 18; refine (bet_at _ _ _ v f _ H).mono ?_; rintro e w' ⟨rfl, rfl⟩)
    | (go_at_call 19; refine (rbet_at _ _ _ v f _ H).mono ?_; rintro e w' ⟨rfl, rfl⟩)
    | (go_at_call 13; refine (awake_any _ hT).mono ?_; rintro e w1 ⟨rfl, hg⟩; have HK := Lib.hid hg; clear hg))
  go_ret
  exact ⟨rfl, HK.out⟩

set_option maxRecDepth 100000 in
set_option maxHeartbeats 4000000 in
theorem AngleBack_core (a b s ma mb ms d : Int) (left : Bool) (w : World) (hT : Tab w) (ha : 0 ≤ a ∧ a ≤ 255) (hb : 0 ≤ b ∧ b ≤ 255) (hs : left = false ∧ s = 64 ∨ left = true ∧ s = 192)
    (MA : Hid ((-a) % 256 = ma)) (MB : Hid ((-b) % 256 = mb)) (MS : Hid ((-s) % 256 = ms)) (B1 : Hid (betV a b s = d ∧ betE a b s = 0)) (B2 : Hid (betV b a s = -d ∧ betE b a s = 0)) (B3 : Hid (betV ma mb ms = -d ∧ betE ma mb ms = 0))
    (bd : -128 ≤ d ∧ d ≤ 128) (N : Hid ((a + d) % 256 = b)) :
    Calls Tryd.prog 7 #[.int .u8 a, .int .u8 b, .bool left] w fun e w' => e = .returned (.bool true) ∧ Grown w w' := by
  rcases hs with ⟨rfl, rfl⟩ | ⟨rfl, rfl⟩
  all_goals
    go_enter Tryd.func7, Tryd.ntmps7
    go_wp2_with (first
      | (go_at_call 18; (first | (with_reducible refine (bet_at a b _ d 0 _ B1).mono ?_) | (with_reducible refine (bet_at b a _ (-d) 0 _ B2).mono ?_) | (with_reducible refine (bet_at ma mb ms (-d) 0 _ B3).mono ?_)); rintro e w' ⟨rfl, rfl⟩)
      | (go_at_call 12; (first | (with_reducible refine (mir_at a ma _ MA).mono ?_) | (with_reducible refine (mir_at b mb _ MB).mono ?_) | (with_reducible refine (mir_at _ ms _ MS).mono ?_)); rintro e w' ⟨rfl, rfl⟩)
      | (go_at_call 11; refine (norm_at _ b _ N).mono ?_; rintro e w' ⟨rfl, rfl⟩)
      | (go_at_call 13; refine (awake_any _ hT).mono ?_; rintro e w1 ⟨rfl, hg⟩; have HK := Lib.hid hg; clear hg))
    go_ret
    exact ⟨rfl, HK.out⟩
theorem AngleBack_walk (a0 a1 : Int) (a2 : Bool) (b0 : 0 ≤ a0 ∧ a0 ≤ 255) (b1 : 0 ≤ a1 ∧ a1 ≤ 255) (w : World) (hT : Tab w) :
    Calls Tryd.prog 7 #[.int .u8 a0, .int .u8 a1, .bool a2] w fun e w' => e = .returned (.bool true) ∧ Grown w w' := by
  obtain ⟨s, hs, h64⟩ : ∃ s : Int, (a2 = false ∧ s = 64 ∨ a2 = true ∧ s = 192) ∧ (s = 64 ∨ s = 192) := by
    cases a2
    · exact ⟨64, Or.inl ⟨rfl, rfl⟩, Or.inl rfl⟩
    · exact ⟨192, Or.inr ⟨rfl, rfl⟩, Or.inr rfl⟩
  have hw := (wayOk_iff a0 a1).2 ⟨b0, b1⟩
  have hw2 := (wayOk_iff a1 a0).2 ⟨b1, b0⟩
  have hw3 := (wayOk_iff ((-a0) % 256) ((-a1) % 256)).2 ⟨by omega, by omega⟩
  have hk := (sideOk_iff s).2 h64
  have hk3 := (sideOk_iff ((-s) % 256)).2 (by omega)
  have o1 := bet_ok hw hk
  have o2 := bet_ok hw2 hk
  have o3 := bet_ok hw3 hk3
  have l := way_lands a0 a1 s
  exact AngleBack_core a0 a1 s ((-a0) % 256) ((-a1) % 256) ((-s) % 256) (wayV a0 a1 s) a2 w hT b0 b1 hs (Lib.hid rfl) (Lib.hid rfl) (Lib.hid rfl) (Lib.hid ⟨o1.2, o1.1⟩) (Lib.hid ⟨o2.2.trans (way_back b0 b1 h64), o2.1⟩) (Lib.hid ⟨o3.2.trans (way_image b0 b1 h64), o3.1⟩)
    (way_bd _ _ _) (Lib.hid (by omega))
end Go.Proofs.YtcchenfagkohdaaDoor.AngW
