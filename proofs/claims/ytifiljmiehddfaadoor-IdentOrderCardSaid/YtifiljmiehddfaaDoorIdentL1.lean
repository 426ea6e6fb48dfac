/-
  Walks of the laws IdentValid and IdentLess. Condition: none.
-/
import Derived.Test.YtifiljmiehddfaaDoorIdentR
namespace Go.Proofs.YtifiljmiehddfaaDoor.NamW
open Go.ChangeShapes Go.WideShapes Go.ChangeAt Go.RowKit
open PairW NamP StrW
set_option maxRecDepth 100000 in
theorem IdentValid_walk {T : World → (Nat → Prop) → Nat → Ss → Prop} (C : IdentC T) (s : ByteArray) (w : World) (hs : s.size ≤ maxLen) :
    Calls Tryd.prog 3 #[.string s] w fun e w' => e = .returned (.bool true) ∧ Own w w' := by
  have HS := Lib.hid hs
  obtain ⟨t, ht⟩ : ∃ t, vldB (bs s) = t := ⟨_, rfl⟩
  have HT := Lib.hid ht
  clear ht hs
  go_enter Tryd.func3, Tryd.ntmps3
  go_wp2_with (first
    | (go_at_call 11; with_reducible refine (C.valid s t _ HS.out HT).mono ?_; rintro e w1 ⟨rfl, g⟩)
    | (go_at_call 12; with_reducible refine (rvalid_at s t _ HS.out HT).mono ?_; rintro e w2 ⟨rfl, rfl⟩)
    | (go_at_call 13; refine (awake_any C _).mono ?_; rintro e w3 ⟨rfl, hg⟩; replace g := g.trans hg))
  go_ret
  exact ⟨rfl, g⟩
set_option maxRecDepth 100000 in
theorem IdentLess_walk {T : World → (Nat → Prop) → Nat → Ss → Prop} (C : IdentC T) (a b : ByteArray) (w : World) (ha : a.size ≤ maxLen) (hb : b.size ≤ maxLen) :
    Calls Tryd.prog 4 #[.string a, .string b] w fun e w' => e = .returned (.bool true) ∧ Own w w' := by
  have HA := Lib.hid ha
  have HB := Lib.hid hb
  obtain ⟨t, ht⟩ : ∃ t, lessB (bs a) (bs b) = t := ⟨_, rfl⟩
  have HT := Lib.hid ht
  clear ht ha hb
  go_enter Tryd.func4, Tryd.ntmps4
  go_wp2_with (first
    | (go_at_call 14; with_reducible refine (C.less a b t _ HA.out HB.out HT).mono ?_; rintro e w1 ⟨rfl, g⟩)
    | (go_at_call 15; with_reducible refine (rless_at a b t _ HA.out HB.out HT).mono ?_; rintro e w2 ⟨rfl, hg⟩; replace g := g.trans hg; clear hg)
    | (go_at_call 13; refine (awake_any C _).mono ?_; rintro e w3 ⟨rfl, hg⟩; replace g := g.trans hg))
  go_ret
  exact ⟨rfl, g⟩
end Go.Proofs.YtifiljmiehddfaaDoor.NamW
