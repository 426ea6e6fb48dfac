/-
  Walk of the library's insertionSortCmpFunc at []int, for whatever comparison that only reads. Condition: none.
-/
import Derived.Test.YtmliajkbknjacaaStableA
import Derived.Shelf.Abstract
namespace Go.Proofs.Ytmliajkbknjacaa.StaW
open Go.ChangeShapes Go.WideShapes Go.ChangeAt Go.RowKit
open PairW CelW StaP
attribute [local go_sem ↓] Go.wp_at_zero Go.wp_at_succ
/-- What a comparison must do: it returns a number that hangs on the two numbers alone, and turns nothing. -/
def Cmps (gf : Nat) (lb : Array Value) (cf : Nat → Nat → Int) (n : Nat) (w : World) (g : Nat) : Prop :=
  ∀ (x y : Nat) (v : Int) (w' : World), x < n → y < n → cf x y = v → Gr w w' g → Calls Try.prog gf (#[.int .i64 (x : Int), .int .i64 (y : Int)] ++ lb) w' fun e w'' => e = .returned (.int .i64 v) ∧ ∃ m, w'' = w'.drewN m
theorem Cmps.next {gf : Nat} {lb : Array Value} {cf : Nat → Nat → Int} {n : Nat} {w w' : World} {g : Nat} (h : Cmps gf lb cf n w g) (k : Gr w w' g) : Cmps gf lb cf n w' g := fun x y v w2 h1 h2 h3 h4 => h x y v w2 h1 h2 h3 (k.trans h4)
theorem Cmps.at {gf : Nat} {lb : Array Value} {cf : Nat → Nat → Int} {n : Nat} {w w' : World} {g : Nat} (h : Cmps gf lb cf n w g) (k : Gr w w' g) {x y : Nat} (hx : x < n) (hy : y < n) {v : Int} (hv : cf x y = v) (N : Nat) :
    Calls Try.prog gf (#[.int .i64 (x : Int), .int .i64 (y : Int)] ++ lb) (w'.drewN N) fun e w'' => e = .returned (.int .i64 v) ∧ ∃ m, w'' = (w'.drewN N).drewN m := h x y v _ hx hy hv (k.drewN N)
set_option maxRecDepth 100000 in
set_option maxHeartbeats 4000000 in
theorem insertion_at {lt : Nat → Nat → Prop} {cf : Nat → Nat → Int} (gf : Nat) (lb : Array Value) (eg : ∀ args w, (callFunc gf args).run Try.prog w = .ok (.enter gf args) w) (B : Hid (Bef lt cf)) (base g n c a b : Nat) (D : Nat → Nat) (w : World)
    (HR : Hid (Rd w base g n c D)) (HC : Hid (Cmps gf lb cf n w g)) (hn : n ≤ 1000000) (h1 : a ≤ b) (h2 : b ≤ n) (HD : Hid (∀ p q, a ≤ p → p < q → q < b → D p < D q)) (HE : Hid (∀ k, a ≤ k → k < b → D k < n)) :
    Calls Try.prog 44 #[.slice (some ⟨g, 0, none⟩) n c, .int .i64 (a : Int), .int .i64 (b : Int), .func (.func gf) #[] lb] w fun e w' => e = .returned (.tuple #[]) ∧ (∃ E, Rd w' base g n c E ∧ Mg lt a b D E) ∧ Gr w w' g := by
  have e0 : IntKind.i64.wrap ((a : Int) + 1) = ((a + 1 : Nat) : Int) := (IntWalk.i64_in _ (by omega)).trans (by omega)
  go_enter Try.func44, Try.ntmps44
  go_wp2
  go_loopw [8, 9] (fun x _ wr => ∃ (i : Nat) (E : Nat → Nat), x = .int .i64 (i : Int) ∧ a < i ∧ (i ≤ b ∨ i = a + 1) ∧ Rd wr base g n c E ∧ Rch a i D E ∧ Rch a b D E ∧ Srt lt a i E ∧ Gr w wr g) (fun x _ _ => b - (intOf x).toNat)
  case atStart => exact ⟨a + 1, D, rfl, by omega, .inr rfl, HR.out, .refl, .refl, fun i j g1 g2 g3 => by omega, Gr.refl _ _⟩
  case round =>
    obtain ⟨i, E, rfl, hi0, hi1, hr, hch, hcb, hs, hg⟩ := hrel
    by_cases hlt : i < b
    · have hEi : E i = D i := hch.out (.inr (Nat.le_refl _))
      have hlow : ∀ p, a ≤ p → p < i → E p < E i := by
        rw [hEi]
        exact hch.all (P := fun x => x < D i) fun k k1 k2 => HD.out k i k1 k2 hlt
      have HI := Lib.hid (ins_start hs (by omega) hlow)
      have HB := Lib.hid (fun k (h : a ≤ k ∧ k < b) => (hch.mono (c := a) (d := b) (Nat.le_refl _) (by omega)).all (P := fun x => x < n) HE.out k h.1 h.2)
      have HCH := Lib.hid hch
      have HCB := Lib.hid hcb
      have HRR := Lib.hid hr
      have HG := Lib.hid hg
      have hlt2 : (i : Int) < b := by omega
      have ei : IntKind.i64.wrap ((i : Int) + 1) = ((i + 1 : Nat) : Int) := (IntWalk.i64_in _ (by omega)).trans (by omega)
      clear hEi hlow hr hch hcb hs hg hi1
      generalize wr = wz at *
      go_wp2
      go_loopw [9] (fun y wr => ∃ (j : Nat) (F : Nat → Nat), y = .int .i64 (j : Int) ∧ Rd wr base g n c F ∧ Ins lt a i j E F ∧ Gr w wr g) (fun y _ => (intOf y).toNat)
      case atStart => exact ⟨i, E, rfl, HRR.out, HI.out, HG.out⟩
      case round =>
        obtain ⟨j, F, rfl, hr, hins, hg⟩ := hrel
        have HINS := Lib.hid hins
        have HR2 := Lib.hid hr
        have HG2 := Lib.hid hg
        obtain ⟨j0, j1⟩ := hins.le
        by_cases haj : a < j
        · obtain ⟨k, rfl⟩ : ∃ k, j = k + 1 := ⟨j - 1, by omega⟩
          obtain ⟨c0, f0⟩ := hr.at (i := k + 1) (by omega)
          obtain ⟨c1, f1⟩ := hr.at (i := k) (by omega)
          have hb := HB.out
          have hx : F (k + 1) < n := hins.rch.all (P := fun x => x < n) (fun q q1 q2 => hb q ⟨q1, by omega⟩) (k + 1) (by omega) (by omega)
          have hy : F k < n := hins.rch.all (P := fun x => x < n) (fun q q1 q2 => hb q ⟨q1, by omega⟩) k (by omega) (by omega)
          have hcur := hins.cur
          obtain ⟨v, hv⟩ : ∃ v, cf (F (k + 1)) (F k) = v := ⟨_, rfl⟩
          have HCC := Lib.hid (HC.out.at hg hx hy hv)
          have HV := Lib.hid hv
          have HCUR := Lib.hid hcur
          have HSW := Lib.hid (hr.swap (k + 1) k)
          obtain ⟨x, hxx⟩ : ∃ x, F (k + 1) = x := ⟨_, rfl⟩
          obtain ⟨y, hyy⟩ : ∃ y, F k = y := ⟨_, rfl⟩
          rw [hxx] at c0 HCC HSW
          rw [hyy] at c1 HCC HSW
          obtain ⟨m, hm⟩ : ∃ m, k + 1 = m := ⟨_, rfl⟩
          rw [hm] at c0 f0 HSW haj j1
          have HM := Lib.hid hm
          have l0 : (m : Int) < n := by omega
          have l1 : (k : Int) < n := by omega
          have d0 : decide ((a : Int) < m) = true := decide_eq_true (by omega)
          have d1 : (a : Int) < m := by omega
          have e2 : IntKind.i64.wrap ((m : Int) - 1) = (k : Int) := (IntWalk.i64_in _ (by omega)).trans (by omega)
          have n1 : m ≠ k := by omega
          have n2 : k ≠ m := by omega
          have hak : a ≤ k := by omega
          rw [hm]
          clear hr hins hg hb hx hy hcur hv hxx hyy hm j0
          go_upto_region 4 with (fail)
          go_quiet ((go_at_fn gf; exact Calls.quiet_of (HCC.out _)))
          by_cases hv0 : v < 0
          · have dv : decide (v < 0) = true := decide_eq_true hv0
            go_upto_region 6 with (fail)
            go_region
            go_wp2
            go_roundw
            case rel =>
              have h3 := HINS.out.cur
              refine ⟨k, _, rfl, HSW.out, ?_, (((HG2.out.drewN _).set m _).set k _)⟩
              have hm := HM.out
              rw [← hm]
              refine HINS.out.step hak ?_
              have h4 := HINS.out.low k hak (by omega) (by omega)
              rw [← h3] at h4 ⊢
              refine (B.out.says _ _ h4).1 ?_
              rw [HV.out]; exact hv0
            case measure => have := HM.out; simp [intOf]; omega
          · have dv : decide (v < 0) = false := decide_eq_false hv0
            go_wp2
            go_roundw
            case rel =>
              have hm := HM.out
              refine ⟨i + 1, F, rfl, by omega, .inl hlt, HR2.out, ?_, HCB.out.trans (HINS.out.rch.mono (Nat.le_refl _) (by omega)), HINS.out.stop B.out (.inr ?_), HG2.out.drewN _⟩
              · exact (HCH.out.mono (Nat.le_refl _) (by omega)).trans HINS.out.rch
              · have h3 := HINS.out.cur
                rw [Nat.add_sub_cancel, ← h3, HV.out]
                exact hv0
            case measure => simp [intOf]; omega
        · obtain rfl : j = a := by omega
          have d0 : decide ((j : Int) < j) = false := decide_eq_false (by omega)
          clear hr hins hg j0 haj
          go_upto_region 4 with (fail)
          go_quiet ((go_at_fn gf; fail))
          go_wp2
          go_roundw
          case rel => exact ⟨i + 1, F, rfl, by omega, .inl hlt, HR2.out, (HCH.out.mono (Nat.le_refl _) (by omega)).trans HINS.out.rch, HCB.out.trans (HINS.out.rch.mono (Nat.le_refl _) (by omega)), HINS.out.stop B.out (.inl rfl), HG2.out.drewN _⟩
          case measure => simp [intOf]; omega
    · go_wp2
      go_end0
      exact ⟨rfl, ⟨E, hr, hcb, hs.sub (Nat.le_refl _) (by omega)⟩, hg⟩
end Go.Proofs.Ytmliajkbknjacaa.StaW
