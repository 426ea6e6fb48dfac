/-
  Walk of Sets of the specification of package span: the normal form of an operation. Condition: the spans are valid, and at most 300.
-/
import Derived.Test.YtggceakihapgiaaSpanC
import Derived.Deep.AppendLies
import Derived.Deep.RegionHeld3
namespace Go.Proofs.Ytggceakihapgiaa.SpaW
open Go.ChangeShapes Go.WideShapes Go.ChangeAt Go.RowKit
open PairW SpaP

theorem scan_step {f : Int → Bool} {ou : List Sp} {p : List Int} {k : Nat} (h : k + 1 < p.length) :
    scan f ou (p.drop k) = scan f (if f (p.getD k 0) = true then addSp ou (p.getD k 0) (p.getD (k + 1) 0) else ou) (p.drop (k + 1)) := by
  have e1 : p.drop k = p.getD k 0 :: p.drop (k + 1) := by
    rw [List.drop_eq_getElem_cons (by omega), List.getD_eq_getElem?_getD, List.getElem?_eq_getElem (show k < p.length by omega)]
    rfl
  have e2 : p.drop (k + 1) = p.getD (k + 1) 0 :: p.drop (k + 2) := by
    rw [List.drop_eq_getElem_cons h, List.getD_eq_getElem?_getD, List.getElem?_eq_getElem h]
    rfl
  rw [e1, e2]
  rfl
theorem scan_done {f : Int → Bool} {ou : List Sp} {p : List Int} {k : Nat} (h : ¬ k + 1 < p.length) : scan f ou (p.drop k) = ou := by
  have : (p.drop k).length ≤ 1 := by rw [List.length_drop]; omega
  match p.drop k, this with
  | [], _ => rfl
  | [_], _ => rfl
theorem cells_last (ini : List Sp) (a b y : Int) : cellsP (ini ++ [(a, y)]) = (cellsP (ini ++ [(a, b)])).set (ini.length * 2 + 1) (.int .i64 y) := by
  rw [cellsP_app, cellsP_app, List.set_append_right _ _ (by rw [cellsP_len]; omega), cellsP_len, show ini.length * 2 + 1 - ini.length * 2 = 1 by omega]
  rfl
theorem add_new {ou : List Sp} {x y : Int} (h : ∀ ini a b, ou = ini ++ [(a, b)] → b ≠ x) : addSp ou x y = ou ++ [(x, y)] := by
  unfold addSp
  cases hl : ou.getLast? with
  | none => rfl
  | some s =>
    have e := getLast_split hl
    simp only
    rw [if_neg (h _ s.1 s.2 e)]
theorem add_old (ini : List Sp) (a x y : Int) : addSp (ini ++ [(a, x)]) x y = ini ++ [(a, y)] := by
  unfold addSp
  simp
set_option maxRecDepth 100000 in
set_option maxHeartbeats 8000000 in
theorem rsets_at (a b : List Sp) (R : List Sp) (sa sb : Value) (op : Int) (w : World) (HR : Hid (setsL a b op = R)) (hop : op = 0 ∨ op = 1 ∨ op = 2) (HA : Hid (Pts w sa a)) (HB : Hid (Pts w sb b)) (hn : a.length + b.length ≤ 300) (HOK : Hid (∀ s ∈ a ++ b, okS s = true)) :
    Calls Try.prog 40 #[sa, sb, .int .i64 op] w fun e w' => ∃ s', e = .returned s' ∧ w'.ownsRow w.heap.size 36 2 s' R.length (cellsP R) ∧ Own w w' := by
  obtain ⟨i0, hi, hz0, hz1, hz2⟩ := info_parts (show (Try.prog.info? 36).map (fun i => (i.zero, i.size, i.bytes)) = some (some (.agg #[.int .i64 0, .int .i64 0]), 2, 16) by kernel_rfl)
  have HI := Lib.hid hi
  have HZ0 := Lib.hid hz0
  have HZ1 := Lib.hid hz1
  have HZ2 := Lib.hid hz2
  clear hi hz0 hz1 hz2
  have HPL := Lib.hid (endsTo_len (a ++ b) [])
  obtain ⟨F, hF⟩ : ∃ F : Int → Bool, F = fun x => opB op (hasB a x) (hasB b x) := ⟨_, rfl⟩
  have HF := Lib.hid hF
  have HSC := Lib.hid (show scan F [] ((endsTo [] (a ++ b)).drop 0) = R by rw [hF]; exact HR.out)
  clear hF HR
  obtain ⟨p, hp⟩ : ∃ p, endsTo [] (a ++ b) = p := ⟨_, rfl⟩
  rw [hp] at HPL HSC
  have hpl : p.length ≤ 600 := by have := HPL.out; simp at this; omega
  have HPP := Lib.hid hp
  clear hp HPL
  go_enter Try.func40, Try.ntmps40
  go_upto_region 2 with (fail)
  have g0 : Own w (w.alloc (.cells #[] 36)) := (Own.refl w).alloc _
  have R0 : (w.alloc (.cells #[] 36)).ownsRow w.heap.size 36 2 (.slice (some ⟨w.heap.size, 0, none⟩) 0 0) 0 [] := World.ownsRow_made w #[] 0 (Nat.le_refl _) (Nat.zero_le _) rfl
  have hb0 : ∀ j, (w.alloc (.cells #[] 36)).cell? ⟨w.heap.size, j, none⟩ = none := fun j => by
    have hh : (w.alloc (.cells #[] 36)).heap[w.heap.size]? = some (.cells #[] 36) := heap_alloc_new w _
    unfold World.cell?
    simp only [hh]
    simp
  have hbs : w.heap.size < (w.alloc (.cells #[] 36)).heap.size := by simp
  generalize w.alloc (.cells #[] 36) = W1 at *
  go_wp2_with (go_at_call 43; refine (rends_l a b _ _ _ _ (Lib.hid rfl) (Lib.hid (HA.out.own g0)) (Lib.hid (HB.out.own g0)) hn HOK).mono ?_; rintro e w2 ⟨sp, rfl, hip, hg⟩)
  rw [HPP.out] at hip
  have g2 := g0.trans hg
  replace R0 := row_own R0 hg
  have hb2 : ∀ j, w2.cell? ⟨w.heap.size, j, none⟩ = none := fun j => by rw [hg.old hbs]; exact hb0 j
  clear hb0 hbs hg g0
  obtain ⟨Ap, cp, rfl, hp1, hp2, hpo⟩ := hip.open
  unfold maxLen at hp2
  have HC := Lib.hid hpo
  clear hpo hip
  obtain ⟨n, hnn⟩ : ∃ n, p.length = n := ⟨_, rfl⟩
  rw [hnn] at hp1 HC hpl
  rw [hnn]
  have HN := Lib.hid hnn
  have HSS := Lib.hid (fun (ou : List Sp) k (h : k + 1 < n) => scan_step (f := F) (ou := ou) (p := p) (k := k) (by rw [hnn]; exact h))
  have HSD := Lib.hid (fun (ou : List Sp) k (h : ¬ k + 1 < n) => scan_done (f := F) (ou := ou) (p := p) (k := k) (by rw [hnn]; exact h))
  clear hnn
  by_cases hn0 : n = 0
  · subst hn0
    go_wp2
    go_loopw [7, 9] (fun o i wr => o = .slice (some ⟨w.heap.size, 0, none⟩) 0 0 ∧ i = .int .i64 0 ∧ wr = w2) (fun _ _ _ => 0)
    case atStart => exact ⟨rfl, rfl, rfl⟩
    case round =>
      obtain ⟨rfl, rfl, rfl⟩ := hrel
      have hr := HSC.out
      rw [HSD.out [] 0 (by omega)] at hr
      have HR2 := Lib.hid hr
      clear hr
      go_wp2
      go_ret
      exact ⟨_, rfl, by rw [← HR2.out]; exact R0, g2⟩
  obtain ⟨pb, po, rfl, hcell⟩ := HC.out (by omega)
  have hgp : w.heap.size ≠ pb := fun e => by
    have h1 := hcell 0 (by omega)
    rw [← e, hb2] at h1
    cases h1
  clear hb2 HC hn0
  go_wp2
  go_loopw [7, 9] (fun o i wr => ∃ (k : Nat) (ou : List Sp), i = .int .i64 k ∧ k ≤ n + 1 ∧ Own w wr ∧ (∀ i, i < n → wr.cell? ⟨pb, po + i, none⟩ = some (.int .i64 (p.getD i 0))) ∧ wr.ownsRow w.heap.size 36 2 o ou.length (cellsP ou) ∧ (∃ g cap, o = .slice (some ⟨g, 0, none⟩) ou.length cap ∧ g ≠ pb) ∧ ou.length ≤ k ∧ scan F ou (p.drop k) = R) (fun _ i _ => n + 1 - (intOf i).toNat)
  case atStart => exact ⟨0, [], rfl, by omega, g2, hcell, R0, ⟨w.heap.size, 0, rfl, hgp⟩, Nat.zero_le _, HSC.out⟩
  case round =>
    clear R0 HSC hgp hcell
    obtain ⟨k, ou, rfl, hk, q1, hcell, hrow, ⟨g, gc, rfl, hg⟩, hol, hsc⟩ := hrel
    have HROW := Lib.hid hrow
    have HCE := Lib.hid hcell
    have HSC := Lib.hid hsc
    clear hrow hcell hsc
    have i1 : IntKind.i64.wrap ((k : Int) + 1) = (k : Int) + 1 := IntWalk.i64_in _ (by omega)
    by_cases hlt : k + 1 < n
    · have e0 := HCE.out k (by omega)
      have e1 := HCE.out (k + 1) hlt
      have hst := HSS.out ou k hlt
      rw [HSC.out] at hst
      obtain ⟨x, hx⟩ : ∃ x, p.getD k 0 = x := ⟨_, rfl⟩
      obtain ⟨y, hy⟩ : ∃ y, p.getD (k + 1) 0 = y := ⟨_, rfl⟩
      rw [hx] at e0 hst
      rw [hy] at e1 hst
      clear hx hy
      have k1 : (k : Int) + 1 < n := by omega
      obtain ⟨ta, hta⟩ : ∃ t, hasB a x = t := ⟨_, rfl⟩
      obtain ⟨tb, htb⟩ : ∃ t, hasB b x = t := ⟨_, rfl⟩
      obtain ⟨tc, htc⟩ : ∃ t, opB op ta tb = t := ⟨_, rfl⟩
      have hfx : F x = tc := by rw [HF.out]; show opB op (hasB a x) (hasB b x) = tc; rw [hta, htb, htc]
      rw [hfx] at hst
      have HTA := Lib.hid hta
      have HTB := Lib.hid htb
      have HTC := Lib.hid htc
      have HST := Lib.hid hst
      clear hta htb htc hfx hst
      have HAr := Lib.hid (HA.out.own q1)
      have HBr := Lib.hid (HB.out.own q1)
      go_upto_region 6 with (fail)
      have c0 : ∀ z : After wr, z.w.cell? ⟨pb, po + k, none⟩ = some (.int .i64 x) := fun z => z.o.cell e0
      have k2 : (k : Int) < n := by omega
      have k3 : 0 ≤ (k : Int) := by omega
      have k4 : 0 ≤ (k : Int) + 1 := by omega
      have k5 : ((k : Int) + 1).toNat = k + 1 := by omega
      refine region_after wr (by kernel_rfl) (by kernel_rfl) ?_
      repeat (first | go_big_quiet_step ((first | (go_at_call 45; (first | (with_reducible refine (rhas_at a _ x ta _ (Lib.hid (HAr.out.own (After.o _))) HTA).mono ?_) | (with_reducible refine (rhas_at b _ x tb _ (Lib.hid (HBr.out.own (After.o _))) HTB).mono ?_)); rintro e wq ⟨rfl, hgq⟩; exact ⟨rfl, ⟨wq, (After.o _).trans hgq⟩, rfl⟩) | (go_at_call 44; with_reducible refine (rin_at ta tb op tc _ HTC hop).mono ?_; rintro e wq ⟨rfl, rfl⟩; exact ⟨rfl, ⟨_, After.o _⟩, rfl⟩))) | quiet_step ((first | (go_at_call 45; (first | (with_reducible refine (rhas_at a _ x ta _ (Lib.hid (HAr.out.own (After.o _))) HTA).mono ?_) | (with_reducible refine (rhas_at b _ x tb _ (Lib.hid (HBr.out.own (After.o _))) HTB).mono ?_)); rintro e wq ⟨rfl, hgq⟩; exact ⟨rfl, ⟨wq, (After.o _).trans hgq⟩, rfl⟩) | (go_at_call 44; with_reducible refine (rin_at ta tb op tc _ HTC hop).mono ?_; rintro e wq ⟨rfl, rfl⟩; exact ⟨rfl, ⟨_, After.o _⟩, rfl⟩))))
      refine wpQuiet_nil ?_
      rintro _ ⟨z, rfl⟩
      have d4 := z.o
      generalize z.w = w3 at *
      clear c0 HAr HBr HTA HTB HTC
      replace q1 := q1.trans d4
      replace e0 := d4.cell e0
      replace e1 := d4.cell e1
      have HCE2 := Lib.hid (fun i (h : i < n) => d4.cell (HCE.out i h))
      have HROW2 := Lib.hid (row_own HROW.out d4)
      clear d4 HCE HROW
      cases tc
      · go_wp2
        go_roundw
        case rel => exact ⟨k + 1, ou, by go_num, by omega, q1, HCE2.out, HROW2.out, ⟨g, gc, rfl, hg⟩, by omega, by rw [HST.out]; rfl⟩
        case measure => simp [intOf]; omega
      · rw [if_pos rfl] at HST
        rcases List.eq_nil_or_concat ou with rfl | ⟨ini, ⟨u, v⟩, hou⟩
        · have HST2 := Lib.hid (show R = scan F ([] ++ [(x, y)]) (p.drop (k + 1)) by rw [HST.out, add_new (fun ini a b h => by simp at h)])
          clear HST HSC
          go_upto_region 8 with (fail)
          go_quiet (fail)
          have hbw : pb < w3.heap.size := block_lt_of_cell e0
          have hgw := (HROW2.out.lt g rfl).1
          go_upto_region 10 with (fail)
          go_region_held3 (fun w' => w'.cell? ⟨pb, po + k, none⟩ = some (.int .i64 x) ∧ w'.cell? ⟨pb, po + (k + 1), none⟩ = some (.int .i64 y)) (first | go_keep | (refine ⟨hgrow.cell (((Own.refl w3).alloc _).drew.cell e0) (by simp [Value.ownBlock]; omega), hgrow.cell (((Own.refl w3).alloc _).drew.cell e1) (by simp [Value.ownBlock]; omega)⟩)) ((refine step_append_lies _ (by rfl) _ _ _ (by rfl) w.heap.size 36 i0 _ 2 16 Try.underlying22 HI.out HZ0.out HZ1.out HZ2.out rfl (by omega) _ _ _ (by rfl) ((HROW2.out.alloc _).drew) ⟨w3.heap.size, 0, none⟩ 1 1 [.int .i64 x, .int .i64 y] (by rfl) (by rfl) (World.news_of_block (cs := #[.int .i64 x, .int .i64 y]) (t := 36) (fr := (0, 0)) (heap_alloc_new w3 _)) (by simp [Value.oneCell']) (by omega) (by unfold maxLen; first | omega | (simp <;> omega)) (by first | omega | (simp <;> omega)) (by have := q1.size; first | omega | (simp <;> omega)) (w3.heap.size + 1) (by simp) ?_; intro gg cap w4 hown1 hgrow hat hlt4))
          have hO : Own w w4 := Own.grown ((q1.drewN _).alloc _) hgrow (by intro j hj; simp [Value.ownBlock] at hj; omega)
          have HC4 := Lib.hid (fun i (h : i < n) => hgrow.cell ((((Own.refl w3).drewN _).alloc _).cell (HCE2.out i h)) (by simp [Value.ownBlock]; omega))
          have hgn : gg ≠ pb := by simp [Value.ownBlock] at hat; omega
          have HROW4 := Lib.hid hown1
          clear hown1 hgrow hat HCE2 HROW2
          go_wp2
          go_roundw
          case rel => exact ⟨k + 1, [] ++ [(x, y)], by go_num, by omega, hO, HC4.out, by rw [List.length_append, cellsP_app]; exact HROW4.out, ⟨gg, cap, by simp, hgn⟩, by simp <;> omega, HST2.out.symm⟩
          case measure => simp [intOf]; omega
        · rw [List.concat_eq_append] at hou
          subst hou
          have hlen : (ini ++ [(u, v)]).length = ini.length + 1 := by simp
          obtain ⟨m, hm⟩ : ∃ m, ini.length = m := ⟨_, rfl⟩
          have r1 := (cellsP_at (ini ++ [(u, v)]) ini.length (by simp)).2
          have hat0 : at' (ini ++ [(u, v)]) ini.length = (u, v) := by unfold at'; rw [List.getD_eq_getElem?_getD]; simp
          have e2 : w3.cell? ⟨g, m * 2 + 1, none⟩ = some (.int .i64 v) := by
            have := World.ownsRow.cellAt HROW2.out (ini.length * 2 + 1) (by simp; omega)
            rw [r1, hat0, hm] at this
            exact this
          rw [hm] at hlen
          have j1 : IntKind.i64.wrap (((m + 1 : Nat) : Int) - 1) = m := by rw [show ((m + 1 : Nat) : Int) - 1 = m by omega]; exact IntWalk.i64_in _ (by omega)
          have j1b : IntKind.i64.wrap ((m : Int) + 1 - 1) = m := by rw [show (m : Int) + 1 - 1 = m by omega]; exact IntWalk.i64_in _ (by omega)
          have j2 : decide ((0 : Int) < ((m + 1 : Nat) : Int)) = true := decide_eq_true (by omega)
          have j3 : (m : Int) < ((m + 1 : Nat) : Int) := by omega
          have j4 : 0 ≤ (m : Int) := by omega
          rw [hlen] at hol HROW2
          rw [hlen]
          clear hat0 r1
          by_cases hv : v = x
          · subst hv
            have HST2 := Lib.hid (show R = scan F (ini ++ [(u, y)]) (p.drop (k + 1)) by rw [HST.out, add_old])
            have hgw := (HROW2.out.lt g rfl).1
            clear HST HSC
            go_upto_region 8 with (fail)
            go_quiet (fail)
            have HROW3 : Hid ((w3.drewN nq).ownsRow w.heap.size 36 2 (.slice (some ⟨g, 0, none⟩) (m + 1) gc) (m + 1) (cellsP (ini ++ [(u, v)]))) := Lib.hid HROW2.out
            have HC3 : Hid (∀ i, i < n → (w3.drewN nq).cell? ⟨pb, po + i, none⟩ = some (.int .i64 (p.getD i 0))) := Lib.hid HCE2.out
            replace e0 : (w3.drewN nq).cell? _ = _ := e0
            replace e1 : (w3.drewN nq).cell? _ = _ := e1
            replace e2 : (w3.drewN nq).cell? _ = _ := e2
            replace q1 : Own w (w3.drewN nq) := q1.drewN nq
            clear HROW2 HCE2
            generalize w3.drewN nq = w5 at *
            have z2 := World.ownsRow.frozenAt HROW3.out (m * 2 + 1)
            have hst := HROW3.out.stored (m * 2 + 1) (.int .i64 y)
            have HROW4 := Lib.hid (show (w5.setCell ⟨g, m * 2 + 1, none⟩ (.int .i64 y)).ownsRow w.heap.size 36 2 (.slice (some ⟨g, 0, none⟩) (m + 1) gc) (m + 1) (cellsP (ini ++ [(u, y)])) by rw [cells_last ini u v y, hm]; exact hst.1)
            have HC4 := Lib.hid (fun i (h : i < n) => hst.2.cell (HC3.out i h) (by simp; omega))
            have hO : Own w (w5.setCell ⟨g, m * 2 + 1, none⟩ (.int .i64 y)) := q1.setCell hgw _
            clear hst HROW3 HC3
            go_wp2
            go_roundw
            case rel => exact ⟨k + 1, ini ++ [(u, y)], by go_num, by omega, hO, HC4.out, by rw [show (ini ++ [(u, y)]).length = m + 1 by simp [hm]]; exact HROW4.out, ⟨g, gc, by rw [show (ini ++ [(u, y)]).length = m + 1 by simp [hm]], hg⟩, by rw [show (ini ++ [(u, y)]).length = m + 1 by simp [hm]]; omega, HST2.out.symm⟩
            case measure => simp [intOf]; omega
          · have HST2 := Lib.hid (show R = scan F ((ini ++ [(u, v)]) ++ [(x, y)]) (p.drop (k + 1)) by
              rw [HST.out, add_new (fun ini2 a2 b2 h => by
                have := List.append_inj_right' h rfl
                simp at this
                rw [← this.2]
                exact hv)])
            have hvb : (v == x) = false := beq_eq_false_iff_ne.2 hv
            clear HST HSC hv
            go_upto_region 8 with (fail)
            go_quiet (fail)
            have hbw : pb < w3.heap.size := block_lt_of_cell e0
            have hgw := (HROW2.out.lt g rfl).1
            go_upto_region 10 with (fail)
            go_region_held3 (fun w' => w'.cell? ⟨pb, po + k, none⟩ = some (.int .i64 x) ∧ w'.cell? ⟨pb, po + (k + 1), none⟩ = some (.int .i64 y)) (first | go_keep | (refine ⟨hgrow.cell (((Own.refl w3).alloc _).drew.cell e0) (by simp [Value.ownBlock]; omega), hgrow.cell (((Own.refl w3).alloc _).drew.cell e1) (by simp [Value.ownBlock]; omega)⟩)) ((refine step_append_lies _ (by rfl) _ _ _ (by rfl) w.heap.size 36 i0 _ 2 16 Try.underlying22 HI.out HZ0.out HZ1.out HZ2.out rfl (by omega) _ _ _ (by rfl) ((HROW2.out.alloc _).drew) ⟨w3.heap.size, 0, none⟩ 1 1 [.int .i64 x, .int .i64 y] (by rfl) (by rfl) (World.news_of_block (cs := #[.int .i64 x, .int .i64 y]) (t := 36) (fr := (0, 0)) (heap_alloc_new w3 _)) (by simp [Value.oneCell']) (by omega) (by unfold maxLen; first | omega | (simp <;> omega)) (by first | omega | (simp <;> omega)) (by have := q1.size; first | omega | (simp <;> omega)) (w3.heap.size + 1) (by simp) ?_; intro gg cap w4 hown1 hgrow hat hlt4))
            have hO : Own w w4 := Own.grown ((q1.drewN _).alloc _) hgrow (by intro j hj; simp [Value.ownBlock] at hj; omega)
            have HC4 := Lib.hid (fun i (h : i < n) => hgrow.cell ((((Own.refl w3).drewN _).alloc _).cell (HCE2.out i h)) (by simp [Value.ownBlock]; omega))
            have hgn : gg ≠ pb := by simp [Value.ownBlock] at hat; omega
            have HROW4 := Lib.hid hown1
            clear hown1 hgrow hat HCE2 HROW2
            go_wp2
            go_roundw
            case rel => exact ⟨k + 1, (ini ++ [(u, v)]) ++ [(x, y)], by go_num, by omega, hO, HC4.out, by rw [List.length_append, cellsP_app, hlen]; exact HROW4.out, ⟨gg, cap, by rw [List.length_append, hlen]; rfl, hgn⟩, by rw [List.length_append, hlen]; show m + 1 + 1 ≤ k + 1; omega, HST2.out.symm⟩
            case measure => simp [intOf]; omega
    · have hr := HSC.out
      rw [HSD.out ou k hlt] at hr
      have HR2 := Lib.hid hr
      clear hr
      have k1 : ¬ (k : Int) + 1 < n := by omega
      go_wp2
      go_ret
      exact ⟨_, rfl, by rw [← HR2.out]; exact HROW.out, q1⟩
end Go.Proofs.Ytggceakihapgiaa.SpaW
