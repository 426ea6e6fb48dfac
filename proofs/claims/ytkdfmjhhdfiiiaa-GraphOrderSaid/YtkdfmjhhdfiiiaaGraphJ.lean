/-
  Walks of the specification of package graph: reaches. Condition: none.
-/
import Derived.Test.YtkdfmjhhdfiiiaaGraphC
import Derived.Test.YtkdfmjhhdfiiiaaGraphPlainG
import Derived.Test.YtkdfmjhhdfiiiaaTabMid
namespace Go.Proofs.Ytkdfmjhhdfiiiaa.GraW
open Go.ChangeShapes Go.WideShapes Go.ChangeAt Go.RowKit
open PairW CelW GraP TabW
/-- For each of the first k nodes, what is reached from it. -/
def rowB (n : Nat) (l : List Ar) (k : Nat) : List (List Value) := (List.range k).map fun a => cellsT (rchV n l a)
theorem rowB_len (n : Nat) (l : List Ar) (k : Nat) : (rowB n l k).length = k := by unfold rowB; rw [List.length_map, List.length_range]
theorem rowB_at {n : Nat} {l : List Ar} {k a : Nat} (h : a < k) : (rowB n l k)[a]? = some (cellsT (rchV n l a)) := by unfold rowB; rw [List.getElem?_map, List.getElem?_range h]; rfl
theorem rowB_succ (n : Nat) (l : List Ar) (k : Nat) : rowB n l (k + 1) = rowB n l k ++ [cellsT (rchV n l k)] := by unfold rowB; rw [List.range_succ, List.map_append]; rfl
theorem rchV_at {n : Nat} {l : List Ar} {a b : Nat} (h : b < n) : (cellsT (rchV n l a))[b]? = some (.bool (rch n l a b)) := by
  unfold cellsT rchV
  rw [List.getElem?_map, List.getElem?_map, List.getElem?_range h]
  rfl
set_option maxRecDepth 100000 in
set_option maxHeartbeats 2000000 in
theorem rreaches_at (n : Nat) (l : List Ar) (sv : Value) (w : World) (HP : Hid (Pts w sv l)) (HCE : Hid (chkE (n : Int) l = 0)) (hn : n ≤ 64) :
    Calls Try.prog 42 #[grV n sv] w fun e w' => ∃ v vs, e = .returned v ∧ TabV w' w.heap.size 33 4 v (rowB n l n) vs ∧ Own w w' := by
  obtain ⟨i0, hi, hz0, hz1, hz2⟩ := info_parts (show (Try.prog.info? 33).map (fun i => (i.zero, i.size, i.bytes)) = some (some (.slice none 0 0), 1, 24) by kernel_rfl)
  have HI := Lib.hid hi
  have HZ0 := Lib.hid hz0
  have HZ1 := Lib.hid hz1
  have HZ2 := Lib.hid hz2
  clear hi hz0 hz1 hz2
  go_enter Try.func42, Try.ntmps42
  go_upto_region 1 with (fail)
  have k0 : (w.alloc (.cells #[.int .i64 (n : Int), sv] 24)).cell? ⟨w.heap.size, 0, none⟩ = some (.int .i64 (n : Int)) := by go_simp
  have k1 : (w.alloc (.cells #[.int .i64 (n : Int), sv] 24)).cell? ⟨w.heap.size, 1, none⟩ = some sv := by go_simp
  have g0 : Own w (w.alloc (.cells #[.int .i64 (n : Int), sv] 24)) := (Own.refl w).alloc _
  generalize hW : (w.alloc (.cells #[.int .i64 (n : Int), sv] 24)) = W0 at *
  have HK0 := Lib.hid k0
  have HK1 := Lib.hid k1
  have HP0 := Lib.hid (HP.out.own g0)
  clear hW k0 k1
  go_wp2
  go_loopw [3, 4, 5, 6] (fun vo va _ _ wr => ∃ (a : Nat) (vs : List Value), va = .int .i64 (a : Int) ∧ a ≤ n ∧ Own W0 wr ∧ TabV wr W0.heap.size 33 4 vo (rowB n l a) vs) (fun _ va _ _ _ => n - (intOf va).toNat)
  case atStart => exact ⟨0, [], rfl, Nat.zero_le _, Own.refl _, tab_nil _ _ _ _⟩
  case round =>
    obtain ⟨a, vs, rfl, han, q, ht⟩ := hrel
    have k0 := q.cell HK0.out
    have k1 := q.cell HK1.out
    obtain ⟨Ao, co, rfl⟩ := rows_shape ht.out
    rw [rowB_len] at *
    have HT := Lib.hid ht
    clear ht
    by_cases hlt : a < n
    · have hkn : (a : Int) < n := by omega
      have HPR := Lib.hid (HP0.out.own q)
      have HH := Lib.hid (show reaE (n : Int) l (a : Int) = 0 ∧ reaV (n : Int) l (a : Int) = rchV n l a by
        have h1 : reaE (n : Int) l (a : Int) = 0 := by unfold reaE; rw [if_neg (by rw [HCE.out]; simp), if_pos (inN_iff.2 ⟨by omega, hkn⟩)]
        exact ⟨h1, by unfold reaV; rw [if_pos h1, Int.toNat_natCast, Int.toNat_natCast]⟩)
      go_upto_region 6 with (go_at_call 19; with_reducible refine (rreach_at n a l _ 0 _ _ HPR HH).mono ?_; rintro e w1 ⟨u, rfl, hu, q1⟩; have HU := Lib.hid hu; clear hu)
      clear k0 k1
      obtain ⟨Au, cu, rfl⟩ := rows_shape HU.out
      have HL := Lib.hid (rchV_len n l a)
      have HU2 := Lib.hid (show w1.ownsRow wr.heap.size 4 1 (.slice Au (rchV n l a).length cu) (cellsT (rchV n l a)).length (cellsT (rchV n l a)) from by rw [cellsT_len]; exact HU.out)
      rw [HL.out] at HU HU2 ⊢
      have q7 := (Own.refl w1).alloc (.cells #[.slice Au n cu] 33)
      have HU7 := Lib.hid (row_own HU2.out q7)
      have HT7 := Lib.hid ((HT.out.own q1).own q7)
      have HQ7 := Lib.hid ((q.trans q1).trans q7)
      have HQR := Lib.hid (q1.trans q7)
      have HBS := Lib.hid (show W0.heap.size ≤ (w1.alloc (.cells #[.slice Au n cu] 33)).heap.size from HQ7.out.size)
      have HCEL := Lib.hid (cel_lit (w := w1) (T := 33) (cs := #[.slice Au n cu]) (xs := [.slice Au n cu]) (k := 1) rfl rfl (by unfold maxLen; decide))
      have K2 := Lib.hid (show a + 1 ≤ maxLen by unfold maxLen; omega)
      have K3 := Lib.hid (show (a + 1) * 24 ≤ 140737488355328 by omega)
      have HRO := Lib.hid (show (w1.alloc (.cells #[.slice Au n cu] 33)).ownsRow W0.heap.size 33 1 (.slice Ao a co) a vs by have := HT7.out.out; rw [rowB_len] at this; exact this)
      clear q7
      go_wp2_with (at_builtin; refine wpList_append_k (by go_simp) _ _ 59 rfl W0.heap.size 33 i0 (.slice none 0 0) 24 Try.underlying59 HI.out HZ0.out HZ1.out HZ2.out rfl (.slice Ao a co) a vs rfl HRO.out _ [.slice Au n cu] rfl HCEL.out (fun x hx => by rw [List.mem_singleton.1 hx]; rfl) (a + 1) rfl K2.out K3.out HBS.out ?_; intro v8 w8 hown8 hgr8; have HOWN8 := Lib.hid hown8; have HGR8 := Lib.hid hgr8; clear hown8 hgr8)
      go_roundw
      case rel =>
        refine ⟨a + 1, vs ++ [.slice Au n cu], by go_num, hlt, HQ7.out.grown HGR8.out (fun k hk => (HRO.out.lt k hk).1), ?_⟩
        rw [rowB_succ]
        exact HT.out.more (by decide) HQR.out HU7.out (Nat.le_refl _) q.size HGR8.out (by rw [rowB_len]; exact HOWN8.out)
      case measure => simp [intOf]; omega
    · obtain rfl : a = n := by omega
      go_wp2
      go_ret
      exact ⟨_, vs, rfl, HT.out.down g0.size, g0.trans q⟩
end Go.Proofs.Ytkdfmjhhdfiiiaa.GraW
