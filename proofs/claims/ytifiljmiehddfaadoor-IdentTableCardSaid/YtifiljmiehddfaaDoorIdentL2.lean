/-
  Walk of the law IdentTable. Condition: none.
-/
import Derived.Test.YtifiljmiehddfaaDoorIdentL1
namespace Go.Proofs.YtifiljmiehddfaaDoor.NamW
open Go.ChangeShapes Go.WideShapes Go.ChangeAt Go.RowKit
open PairW NamP StrW
theorem NewRet.no {T : World → (Nat → Prop) → Nat → Ss → Prop} {l : Ss} {f : Int} {w w' : World} {e : Ending} (h : NewRet T l f w e w') (hf : f ≠ 0) : e = .returned (.tuple #[.pointer none, .int .i64 f]) ∧ Own w w' := by
  rcases h with ⟨_, h⟩ | ⟨h, _⟩
  · exact h
  · exact absurd h hf
/-- The contract of the specification's New. -/
def RNew : Prop := ∀ (l : Ss) (sv : Value) (f : Int) (w : World), Hid (Strs w sv l) → Hid (Short l) → l.length ≤ 1000 → Hid (newE l = f) →
    Calls Tryd.prog 20 #[sv] w (NewRet RTab l f w)
set_option maxRecDepth 100000 in
set_option maxHeartbeats 2000000 in
theorem IdentTable_walk {T : World → (Nat → Prop) → Nat → Ss → Prop} (C : IdentC T) (RN : RNew) (l : Ss) (sv : Value) (s : ByteArray) (i : Int) (w : World) (HP : Hid (Strs w sv l)) (HS : Hid (Short l)) (hs : s.size ≤ maxLen) :
    Calls Tryd.prog 7 #[sv, .string s, .int .i64 i] w fun e w' => e = .returned (.bool true) ∧ Own w w' := by
  have HSS := Lib.hid hs
  clear hs
  obtain ⟨A, cap, rfl, _, hcm, _⟩ := HP.out
  unfold maxLen at hcm
  obtain ⟨f, hf⟩ : ∃ f, newE l = f := ⟨_, rfl⟩
  have HF := Lib.hid hf
  clear hf
  have HL := Lib.hid (show ∀ n, l.length = n → n ≤ 40 → l.length ≤ 1000 from fun n h1 h2 => by omega)
  obtain ⟨n, hn⟩ : ∃ n, l.length = n := ⟨_, rfl⟩
  have HN := Lib.hid hn
  rw [hn] at HP
  rw [hn]
  clear hn
  by_cases c : 40 < n
  · have c1 : (40 : Int) < n := by omega
    go_enter Tryd.func7, Tryd.ntmps7
    go_wp2_with (go_at_call 13; refine (awake_any C _).mono ?_; rintro e w3 ⟨rfl, hg⟩)
    go_ret
    exact ⟨rfl, hg⟩
  · have c1 : ¬ (40 : Int) < n := by omega
    have hn40 : n ≤ 40 := by omega
    by_cases d : f = 0
    · subst d
      obtain ⟨k, hk⟩ : ∃ k, idxV l s = k := ⟨_, rfl⟩
      obtain ⟨t, ht⟩ : ∃ t, decide (0 ≤ findI s l) = t := ⟨_, rfl⟩
      obtain ⟨x, hx⟩ : ∃ x, nameV l i = x := ⟨_, rfl⟩
      obtain ⟨m, hm⟩ : ∃ m, nameE l i = m := ⟨_, rfl⟩
      have HI := Lib.hid (And.intro hk ht)
      have HM := Lib.hid (And.intro hx hm)
      clear hk ht hx hm
      have hxx : (x.toList == x.toList) = true := str_eq rfl
      go_enter Tryd.func7, Tryd.ntmps7
      go_upto_region 4 with (go_at_call 16; refine (C.new l _ 0 _ HP HS (HL.out n HN.out hn40) HF).mono ?_; rintro e w1 hq; obtain ⟨tg, F, rfl, g, hT, _⟩ := hq.ok; clear hq)
      go_upto_region 5 with (go_at_call 20; refine (RN l _ 0 _ (Lib.hid (HP.out.own g)) HS (HL.out n HN.out hn40) HF).mono ?_; rintro e w2 hq; obtain ⟨ug, G, rfl, hg, hU, _⟩ := hq.ok; clear hq; replace hT := C.own hT hg; replace g := g.trans hg; clear hg)
      have HT := Lib.hid hT
      have HU := Lib.hid hU
      clear hT hU HP HS
      go_upto_region 10 with (go_at_call 18; refine (C.index l s tg F k t _ HSS.out HT HI).mono ?_; rintro e w3 ⟨rfl, hg⟩; replace HT := Lib.hid (C.own HT.out hg); replace HU := Lib.hid (HU.out.own hg); replace g := g.trans hg; clear hg)
      go_upto_region 11 with (go_at_call 21; refine (rindex_at l s ug G k t _ HU HI).mono ?_; rintro e w4 ⟨rfl, hg⟩; replace HT := Lib.hid (C.own HT.out hg); replace HU := Lib.hid (HU.out.own hg); replace g := g.trans hg; clear hg)
      go_upto_region 12 with (go_at_call 17; refine (C.name l i tg F x m _ HT HM).mono ?_; rintro e w5 ⟨rfl, hg⟩; replace HT := Lib.hid (C.own HT.out hg); replace HU := Lib.hid (HU.out.own hg); replace g := g.trans hg; clear hg)
      go_upto_region 13 with (go_at_call 22; refine (rname_at l i ug G x m _ HU HM).mono ?_; rintro e w6 ⟨rfl, hg⟩; replace g := g.trans hg; clear hg)
      go_wp2_with (go_at_call 13; refine (awake_any C _).mono ?_; rintro e w7 ⟨rfl, hg⟩)
      go_ret
      exact ⟨rfl, g.trans hg⟩
    · have HD := Lib.hid d
      go_enter Tryd.func7, Tryd.ntmps7
      clear d
      go_upto_region 4 with (go_at_call 16; refine (C.new l _ f _ HP HS (HL.out n HN.out hn40) HF).mono ?_; rintro e w1 hq; obtain ⟨rfl, g⟩ := hq.no HD.out; clear hq)
      go_upto_region 5 with (go_at_call 20; refine (RN l _ f _ (Lib.hid (HP.out.own g)) HS (HL.out n HN.out hn40) HF).mono ?_; rintro e w2 hq; obtain ⟨rfl, hg⟩ := hq.no HD.out; clear hq; replace g := g.trans hg; clear hg)
      go_wp2_with (go_at_call 13; refine (awake_any C _).mono ?_; rintro e w7 ⟨rfl, hg⟩)
      go_ret
      exact ⟨rfl, g.trans hg⟩
end Go.Proofs.YtifiljmiehddfaaDoor.NamW
