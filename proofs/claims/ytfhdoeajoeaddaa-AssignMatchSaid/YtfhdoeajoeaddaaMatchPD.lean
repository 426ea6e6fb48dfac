/-
  Walks of the program of package match: greatest, Size, with, improve, Match. Condition: none.
-/
import Derived.Test.YtfhdoeajoeaddaaMatchPC
import Derived.Test.YtfhdoeajoeaddaaMatchPlainC
namespace Go.Proofs.Ytfhdoeajoeaddaa.MchW
open Go.ChangeShapes Go.WideShapes Go.ChangeAt Go.RowKit
open PairW CelW TabW MchP
theorem rep_isP (l : List (List Bool)) (n : Nat) : IsP l (List.replicate n (-1)) := by
  refine ⟨fun i x h => ?_, fun i j c h => ?_⟩
  · rw [List.getElem?_replicate] at h
    split at h
    · injection h with h
      exact .inl h.symm
    · cases h
  · rw [List.getElem?_replicate] at h
    split at h
    · injection h with h
      omega
    · cases h
set_option maxRecDepth 100000 in
set_option maxHeartbeats 1000000 in
theorem greatest_at (l : List (List Bool)) (vl : Value) (W R : Nat) (w : World) (HT : Hid (Cels w vl (cellsB l))) (HS : Hid (Sq l)) (HR : Hid (l.length = R)) (HW : Hid (wd l = W)) (hW : W ≤ 24) (hR : R ≤ 24) :
    Calls Try.prog 31 #[vl] w fun e w' => ∃ g m, e = .returned (.slice (some ⟨g, 0, none⟩) R R) ∧ w'.ownsRow w.heap.size 3 1 (.slice (some ⟨g, 0, none⟩) R R) R (cellsI m) ∧ Own w w' ∧ Gt l W R m := by
  obtain ⟨AL, capl, rfl, t1, t2, _⟩ := tb_open HT.out
  rw [HR.out] at t1 HT ⊢
  unfold maxLen at t2
  have k0 : (w.alloc (.cells #[.int .i64 (-1)] 3)).cell? ⟨w.heap.size, 0, none⟩ = some (.int .i64 (-1)) := by go_simp
  have q0 : Own w (w.alloc (.cells #[.int .i64 (-1)] 3)) := (Own.refl w).alloc _
  go_enter Try.func31, Try.ntmps31
  go_upto_region 2 with (go_at_call 32; refine (prep_at R w.heap.size _ k0 (by omega)).mono ?_; rintro e w2 ⟨g, rfl, hr2, q2⟩; have HR2 := Lib.hid (row_down hr2 q0.size); have HQ2 := Lib.hid (q0.trans q2); clear hr2 q2)
  clear k0 q0
  have HPP := Lib.hid (rep_isP l R)
  go_upto_region 3 with (go_at_call 40; refine (enlarge_at l w _ 0 W R R g (List.replicate R (-1)) w2 HT HQ2 HR2 HPP HS HR HW hW hR (Nat.zero_le _)).mono ?_; rintro e w3 ⟨rfl, q3, m, hm, h, V, S, hinv⟩; have HQ3 := Lib.hid q3; have HM := Lib.hid hm; have HI := Lib.hid hinv; clear q3 hm hinv)
  go_wp2
  go_ret
  refine ⟨g, m, rfl, HM.out, Kp.own HQ2.out HQ3.out (fun x hx => ?_), _, _, _, _, HI.out⟩
  simp only [List.mem_cons, List.not_mem_nil, or_false] at hx
  rw [hx]
  exact (HR2.out.lt g rfl).1
set_option maxRecDepth 100000 in
set_option maxHeartbeats 1000000 in
theorem psizeOf_at (l : List (List Bool)) (vl : Value) (n : Nat) (f : Int) (w : World) (HT : Hid (Cels w vl (cellsB l))) (HF : Hid (chkE l = f)) (HN : Hid (nuV l = n)) :
    Calls Try.prog 22 #[vl] w fun e w' => e = .returned (.tuple #[.int .i64 (n : Int), .int .i64 f]) ∧ Own w w' ∧ (f = 0 → Mx (Pl l) n) := by
  have hcall := pcheck_at l vl f w HT HF
  by_cases h0 : f = 0
  · subst h0
    obtain ⟨b1, b2, b3⟩ := chk_ok HF.out
    obtain ⟨R, hR⟩ : ∃ R, l.length = R := ⟨_, rfl⟩
    obtain ⟨W, hW⟩ : ∃ W, wd l = W := ⟨_, rfl⟩
    rw [hR] at b1
    rw [hW] at b2
    have HR := Lib.hid hR
    have HW := Lib.hid hW
    have HS := Lib.hid b3
    have hg := greatest_at l vl W R w HT HS HR HW b2 b1
    clear hR hW b3
    go_enter Try.func22, Try.ntmps22
    go_wp2_with (first
      | (go_at_call 29; refine hcall.mono ?_; rintro e w1 ⟨rfl, rfl⟩)
      | (go_at_call 31; refine hg.mono ?_; rintro e w2 ⟨g, m, rfl, hm, q2, hgt⟩; have HM := Lib.hid (cel_of_row hm); have HQ := Lib.hid q2; have HG := Lib.hid hgt; have HZ := Lib.hid (show sz m = n by rw [← HN.out]; unfold nuV; rw [if_pos HF.out, nu_of (hgt.mx HR.out)]); clear hm q2 hgt)
      | (go_at_call 30; refine (psize_at m _ n w2 HM HZ).mono ?_; rintro e w3 ⟨rfl, rfl⟩))
    go_ret2
    exact ⟨rfl, HQ.out, fun _ => by rw [← HZ.out]; exact HG.out.mx HR.out⟩
  · obtain rfl : 0 = n := by rw [← HN.out]; exact (maV_bad (by rw [HF.out]; exact h0)).2.symm
    have d1 : (f == 0) = false := beq_eq_false_iff_ne.2 h0
    have d2 : (f != 0) = true := bne_iff_ne.2 h0
    go_enter Try.func22, Try.ntmps22
    go_wp2_with (go_at_call 29; refine hcall.mono ?_; rintro e w1 ⟨rfl, rfl⟩)
    go_ret2
    exact ⟨rfl, Own.refl _, fun e => absurd e h0⟩
end Go.Proofs.Ytfhdoeajoeaddaa.MchW
