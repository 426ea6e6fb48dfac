/-
  Walks of the specification of package wire: Bytes, Ints, of lists that are equal; the laws' own copy. Condition: none.
-/
import Derived.Test.YteaidfocbhadjaaWireF
import Derived.Test.YteaidfocbhadjaaWireG
import Derived.Laws.BytesString
namespace Go.Proofs.Yteaidfocbhadjaa.WirW
open Go.ChangeShapes Go.WideShapes Go.ChangeAt Go.RowKit
open PairW CelW WirP
theorem conv_cel {P : Program} {w : World} {v : Value} {b : Bs} (h : Cel w v (cellsU b)) {src e dst : TypeId} (hs : P.underlying src = some (.slice e)) (he : P.underlying e = some (.int .u8)) (hd : P.underlying dst = some .string) :
    (convert src dst v).run P w = .ok (.string (strB b)) w := by
  obtain ⟨A, cap, rfl, h1, h2, h3⟩ := cel_cells h
  cases A with
  | none =>
    have h0 : b = [] := by
      refine List.eq_nil_of_length_eq_zero ?_
      refine Nat.eq_zero_of_not_pos fun h0 => ?_
      obtain ⟨g, off, hg, _⟩ := h3 h0
      cases hg
    subst h0
    rw [run_convert_bytes_string w src dst e none _ cap hs he hd]
    simp [Conv.bytesToString]
    rfl
  | some ad =>
    by_cases h0 : 0 < b.length
    · obtain ⟨g, off, hg, hc⟩ := h3 h0
      injection hg with hg
      subst hg
      exact conv_at rfl hc hs he hd
    · obtain rfl := List.eq_nil_of_length_eq_zero (Nat.eq_zero_of_not_pos h0)
      obtain ⟨g, off, f⟩ := ad
      rw [run_convert_bytes_string w src dst e _ _ cap hs he hd]
      simp [Conv.bytesToString, loadCells]
      rfl
set_option maxRecDepth 100000 in
theorem rbytes_yes (b : Bs) (va vb : Value) (w : World) (HA : Hid (Cel w va (cellsU b))) (HB : Hid (Cel w vb (cellsU b))) :
    Calls Try.prog 13 #[va, vb] w fun e w' => e = .returned (.bool true) ∧ w = w' := by
  have c1 := conv_cel (P := Try.prog) HA.out (src := 22) (e := 5) (dst := 9) rfl rfl rfl
  have c2 := conv_cel (P := Try.prog) HB.out (src := 22) (e := 5) (dst := 9) rfl rfl rfl
  obtain ⟨A, ca, rfl, _, _⟩ := cel_form HA.out
  obtain ⟨B, cb, rfl, _, _⟩ := cel_form HB.out
  obtain ⟨s, hs⟩ : ∃ s, strB b = s := ⟨_, rfl⟩
  rw [hs] at c1 c2
  obtain ⟨n, hn⟩ : ∃ n, (cellsU b).length = n := ⟨_, rfl⟩
  rw [hn] at c1 c2 ⊢
  clear hs hn HA HB
  go_enter Try.func13, Try.ntmps13
  go_wp2
  go_ret
  exact ⟨rfl, rfl⟩
set_option maxRecDepth 100000 in
theorem rints_yes (l : List Int) (va vb : Value) (w : World) (HA : Hid (Cel w va (cellsI l))) (HB : Hid (Cel w vb (cellsI l))) :
    Calls Try.prog 24 #[va, vb] w fun e w' => e = .returned (.bool true) ∧ ∃ n, w' = w.drewN n := by
  obtain ⟨A, ca, rfl, ha1, ha2, ha⟩ := cel_ints HA.out
  obtain ⟨B, cb, rfl, hb1, hb2, hb⟩ := cel_ints HB.out
  unfold maxLen at ha2 hb2
  have HCA := Lib.hid ha
  have HCB := Lib.hid hb
  clear ha hb HA HB
  obtain ⟨n, hn⟩ : ∃ n, l.length = n := ⟨_, rfl⟩
  have HN := Lib.hid hn
  rw [hn] at ha1 hb1 ⊢
  clear hn
  go_enter Try.func24, Try.ntmps24
  go_wp2
  go_loopw [5] (fun i wr => ∃ k : Nat, i = .int .i64 k ∧ k ≤ n ∧ ∃ d, wr = w.drewN d) (fun i _ => n - (intOf i).toNat)
  case atStart => exact ⟨0, rfl, Nat.zero_le _, 0, rfl⟩
  case round =>
    obtain ⟨k, rfl, hk, d, rfl⟩ := hrel
    by_cases hlt : k < n
    · have hkl : k < l.length := by rw [HN.out]; exact hlt
      obtain ⟨b, off, rfl, hc⟩ := HCA.out (by omega)
      obtain ⟨b2, off2, rfl, hc2⟩ := HCB.out (by omega)
      have e0 := hc k hkl
      have e1 := hc2 k hkl
      have hkn : (k : Int) < n := by omega
      obtain ⟨x, hx⟩ : ∃ x, l[k] = x := ⟨_, rfl⟩
      rw [hx] at e0 e1
      clear hx hc hc2 hkl
      go_upto_region 6 with (fail)
      go_quiet (fail)
      go_wp2
      go_roundw
      case rel => exact ⟨k + 1, by go_num, hlt, _, rfl⟩
      case measure => simp [intOf]; omega
    · obtain rfl : n = k := by omega
      go_wp2
      go_ret
      exact ⟨rfl, d, rfl⟩
set_option maxRecDepth 100000 in
theorem lown_at (b : Bs) (v : Value) (w : World) (HB : Hid (Cel w v (cellsU b))) (hl : b.length ≤ 140737488355000) :
    Calls Try.prog 15 #[v] w fun e w' => ∃ v', e = .returned v' ∧ w'.ownsRow w.heap.size 5 1 v' b.length (cellsU b) ∧ Own w w' := by
  obtain ⟨i0, hi, hz0, hz1, hz2⟩ := info_parts (show (Try.prog.info? 5).map (fun i => (i.zero, i.size, i.bytes)) = some (some (.int .u8 0), 1, 1) by kernel_rfl)
  have HI := Lib.hid hi
  have HZ0 := Lib.hid hz0
  have HZ1 := Lib.hid hz1
  have HZ2 := Lib.hid hz2
  clear hi hz0 hz1 hz2
  have HBL := Lib.hid (cellsU_len b)
  have HB1 := Lib.hid (cellsU_one b)
  obtain ⟨A, c, rfl, _, hc⟩ := cel_form HB.out
  have HB2 := Lib.hid (HB.out.own ((Own.refl w).alloc (.cells #[] 5)))
  have HR0 := Lib.hid (World.ownsRow_made (e := 5) (size := 1) w #[] 0 (Nat.le_refl _) (Nat.zero_le _) rfl)
  obtain ⟨k0, hk0⟩ : ∃ k, (cellsU b).length = k := ⟨_, rfl⟩
  have HK0 := Lib.hid (show 0 + (cellsU b).length = k0 by omega)
  have hkl : k0 = b.length := by rw [← hk0, cellsU_len]
  have HK1 := Lib.hid (show k0 ≤ maxLen by unfold maxLen; omega)
  have HK2 := Lib.hid (show k0 * 1 ≤ 140737488355328 by omega)
  have HSZ := Lib.hid (show w.heap.size ≤ (w.alloc (.cells #[] 5)).heap.size from ((Own.refl w).alloc _).size)
  have HKL := Lib.hid hkl.symm
  clear hc hk0 hkl HB
  go_enter Try.func15, Try.ntmps15
  go_wp2_with (at_builtin; refine wpList_append_c (by go_simp) _ _ 22 rfl w.heap.size 5 i0 (.int .u8 0) 1 Try.underlying22 HI.out HZ0.out HZ1.out HZ2.out rfl w.heap.size 0 0 [] rfl HR0.out _ (cellsU b) rfl HB2.out HB1.out k0 HK0.out HK1.out HK2.out HSZ.out ?_; intro g1 c1 w1 hown hgr; have q1 := own_app hgr)
  rw [List.nil_append] at hown
  go_ret
  exact ⟨_, rfl, by rw [HKL.out]; exact hown, q1⟩
end Go.Proofs.Yteaidfocbhadjaa.WirW
