/-
  Walks of the closures of Union, Common and Minus: what a call returns for every input. Condition: none.
-/
import Derived.Test.YtggceakihapgiaaSpanPC
namespace Go.Proofs.Ytggceakihapgiaa.SpaW
open Go.ChangeShapes Go.WideShapes Go.ChangeAt Go.RowKit
open PairW SpaP
/-- The closure g says of each number what f says, in any later world. -/
def Belongs (g : Nat) (lb : Array Value) (f : Int → Bool) (w : World) : Prop :=
  ∀ (W : World) (x : Int) (t : Bool), Own w W → f x = t → Calls Try.prog g (#[.int .i64 x] ++ lb) W fun e w' => e = .returned (.bool t) ∧ Own W w'
set_option maxRecDepth 100000 in
theorem pun1_at (a b : List Sp) (A B : Option Addr) (n m ca cb P1 P2 : Nat) (w : World) (HA : Hid (Pts w (.slice A n ca) a)) (HB : Hid (Pts w (.slice B m cb) b)) (h1 : w.cell? ⟨P1, 0, none⟩ = some (.slice A n ca)) (h2 : w.cell? ⟨P2, 0, none⟩ = some (.slice B m cb)) :
    Belongs 37 #[.pointer (some ⟨P1, 0, none⟩), .pointer (some ⟨P2, 0, none⟩)] (fun x => opB 0 (hasB a x) (hasB b x)) w := by
  intro W x t g0 ht
  obtain ⟨ta, hta⟩ : ∃ t, hasB a x = t := ⟨_, rfl⟩
  obtain ⟨tb, htb⟩ : ∃ t, hasB b x = t := ⟨_, rfl⟩
  simp only [hta, htb] at ht
  have HTA := Lib.hid hta
  have HTB := Lib.hid htb
  have HA1 := Lib.hid (HA.out.own g0)
  have HB1 := Lib.hid (HB.out.own g0)
  replace h1 := g0.cell h1
  replace h2 := g0.cell h2
  clear hta htb HA HB g0
  show Calls Try.prog 37 #[.int .i64 x, .pointer (some ⟨P1, 0, none⟩), .pointer (some ⟨P2, 0, none⟩)] W _
  cases ta
  · have e : t = tb := by rw [← ht]; rfl
    subst e
    clear ht
    go_enter Try.func37, Try.ntmps37
    go_wp2_with (go_at_call 14; (first | (with_reducible refine (phas_at a _ _ _ _ HA1 HTA).mono ?_; rintro e w1 ⟨rfl, g1⟩; replace h2 := g1.cell h2) | (with_reducible refine (phas_at b _ _ _ _ (Lib.hid (HB1.out.own g1)) HTB).mono ?_; rintro e w2 ⟨rfl, hg⟩; replace g1 := g1.trans hg)))
    go_ret
    exact ⟨rfl, g1⟩
  · have e : t = true := by rw [← ht]; rfl
    subst e
    clear ht
    go_enter Try.func37, Try.ntmps37
    go_wp2_with (go_at_call 14; (first | (with_reducible refine (phas_at a _ _ _ _ HA1 HTA).mono ?_; rintro e w1 ⟨rfl, g1⟩; replace h2 := g1.cell h2) | (with_reducible refine (phas_at b _ _ _ _ (Lib.hid (HB1.out.own g1)) HTB).mono ?_; rintro e w2 ⟨rfl, hg⟩; replace g1 := g1.trans hg)))
    go_ret
    exact ⟨rfl, g1⟩
set_option maxRecDepth 100000 in
theorem pco1_at (a b : List Sp) (A B : Option Addr) (n m ca cb P1 P2 : Nat) (w : World) (HA : Hid (Pts w (.slice A n ca) a)) (HB : Hid (Pts w (.slice B m cb) b)) (h1 : w.cell? ⟨P1, 0, none⟩ = some (.slice A n ca)) (h2 : w.cell? ⟨P2, 0, none⟩ = some (.slice B m cb)) :
    Belongs 38 #[.pointer (some ⟨P1, 0, none⟩), .pointer (some ⟨P2, 0, none⟩)] (fun x => opB 1 (hasB a x) (hasB b x)) w := by
  intro W x t g0 ht
  obtain ⟨ta, hta⟩ : ∃ t, hasB a x = t := ⟨_, rfl⟩
  obtain ⟨tb, htb⟩ : ∃ t, hasB b x = t := ⟨_, rfl⟩
  simp only [hta, htb] at ht
  have HTA := Lib.hid hta
  have HTB := Lib.hid htb
  have HA1 := Lib.hid (HA.out.own g0)
  have HB1 := Lib.hid (HB.out.own g0)
  replace h1 := g0.cell h1
  replace h2 := g0.cell h2
  clear hta htb HA HB g0
  show Calls Try.prog 38 #[.int .i64 x, .pointer (some ⟨P1, 0, none⟩), .pointer (some ⟨P2, 0, none⟩)] W _
  cases ta
  · have e : t = false := by rw [← ht]; rfl
    subst e
    clear ht
    go_enter Try.func38, Try.ntmps38
    go_wp2_with (go_at_call 14; (first | (with_reducible refine (phas_at a _ _ _ _ HA1 HTA).mono ?_; rintro e w1 ⟨rfl, g1⟩; replace h2 := g1.cell h2) | (with_reducible refine (phas_at b _ _ _ _ (Lib.hid (HB1.out.own g1)) HTB).mono ?_; rintro e w2 ⟨rfl, hg⟩; replace g1 := g1.trans hg)))
    go_ret
    exact ⟨rfl, g1⟩
  · have e : t = tb := by rw [← ht]; rfl
    subst e
    clear ht
    go_enter Try.func38, Try.ntmps38
    go_wp2_with (go_at_call 14; (first | (with_reducible refine (phas_at a _ _ _ _ HA1 HTA).mono ?_; rintro e w1 ⟨rfl, g1⟩; replace h2 := g1.cell h2) | (with_reducible refine (phas_at b _ _ _ _ (Lib.hid (HB1.out.own g1)) HTB).mono ?_; rintro e w2 ⟨rfl, hg⟩; replace g1 := g1.trans hg)))
    go_ret
    exact ⟨rfl, g1⟩
set_option maxRecDepth 100000 in
theorem pmi1_at (a b : List Sp) (A B : Option Addr) (n m ca cb P1 P2 : Nat) (w : World) (HA : Hid (Pts w (.slice A n ca) a)) (HB : Hid (Pts w (.slice B m cb) b)) (h1 : w.cell? ⟨P1, 0, none⟩ = some (.slice A n ca)) (h2 : w.cell? ⟨P2, 0, none⟩ = some (.slice B m cb)) :
    Belongs 39 #[.pointer (some ⟨P1, 0, none⟩), .pointer (some ⟨P2, 0, none⟩)] (fun x => opB 2 (hasB a x) (hasB b x)) w := by
  intro W x t g0 ht
  obtain ⟨ta, hta⟩ : ∃ t, hasB a x = t := ⟨_, rfl⟩
  obtain ⟨tb, htb⟩ : ∃ t, hasB b x = t := ⟨_, rfl⟩
  simp only [hta, htb] at ht
  have HTA := Lib.hid hta
  have HTB := Lib.hid htb
  have HA1 := Lib.hid (HA.out.own g0)
  have HB1 := Lib.hid (HB.out.own g0)
  replace h1 := g0.cell h1
  replace h2 := g0.cell h2
  clear hta htb HA HB g0
  show Calls Try.prog 39 #[.int .i64 x, .pointer (some ⟨P1, 0, none⟩), .pointer (some ⟨P2, 0, none⟩)] W _
  cases ta
  · have e : t = false := by rw [← ht]; rfl
    subst e
    clear ht
    go_enter Try.func39, Try.ntmps39
    go_wp2_with (go_at_call 14; (first | (with_reducible refine (phas_at a _ _ _ _ HA1 HTA).mono ?_; rintro e w1 ⟨rfl, g1⟩; replace h2 := g1.cell h2) | (with_reducible refine (phas_at b _ _ _ _ (Lib.hid (HB1.out.own g1)) HTB).mono ?_; rintro e w2 ⟨rfl, hg⟩; replace g1 := g1.trans hg)))
    go_ret
    exact ⟨rfl, g1⟩
  · cases tb
    all_goals
      have e := ht
      simp [opB] at e
      subst e
      clear ht
      go_enter Try.func39, Try.ntmps39
      go_wp2_with (go_at_call 14; (first | (with_reducible refine (phas_at a _ _ _ _ HA1 HTA).mono ?_; rintro e w1 ⟨rfl, g1⟩; replace h2 := g1.cell h2) | (with_reducible refine (phas_at b _ _ _ _ (Lib.hid (HB1.out.own g1)) HTB).mono ?_; rintro e w2 ⟨rfl, hg⟩; replace g1 := g1.trans hg)))
      go_ret
      exact ⟨rfl, g1⟩
end Go.Proofs.Ytggceakihapgiaa.SpaW
