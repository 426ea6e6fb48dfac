/-
  Walks of the laws of package balance: body, upright, margin, awake. Condition: the table of sines, the table of bounds and the numbers of both sides lie in memory.
-/
import Derived.Test.YtighpjhipgobiaaDoorBalancePH
import Derived.Test.YtighpjhipgobiaaDoorRegMore
namespace Go.Proofs.YtighpjhipgobiaaDoor.BalL
open Go.ChangeShapes Go.WideShapes Go.ChangeAt Go.RowKit
open BalW PairW AimP AimW BlkW PrtW PstP PstW JntP JntW BalP
def bdyl : List Int := [800, 500, 200, 600, 100, 200, 600, 100, 50, 100, 300, 30000, 5000, 4000, 10000]
def bdy : Vl := fun i => bdyl.getD i 0
def uprl : List Int := [0, 0, 0, 0, 0, -64, 0, 0, -64, 0, 0, 64, 0, 0, -64, 0, 0, -64, 0, 0, 64, 0]
def upr : Vl := fun i => uprl.getD i 0
def qurl : List Int := [0, 0, 0, 0, 0, -64, 0, 0, -64, 0, 0, 64, 0, 0, -64, 0, 64, 0, 0, 0, 64, 0]
def qur : Vl := fun i => qurl.getD i 0
theorem c_c : ceV bdy qur 3 0 = 19 ∧ ceV bdy qur 3 1 = 0 ∧ joE bdy qur 3 = 0 := by decide +kernel
theorem c_m0 : mgV bdy upr 3 = 100 ∧ mgE bdy upr 3 = 0 := by decide +kernel
theorem c_s0 : stV bdy upr 3 = true ∧ joE bdy upr 3 = 0 := by decide +kernel
theorem c_m1 : mgV bdy upr 1 = 0 ∧ mgE bdy upr 1 = 0 := by decide +kernel
theorem c_s1 : stV bdy upr 1 = true ∧ joE bdy upr 1 = 0 := by decide +kernel
theorem c_m2 : mgV bdy upr 2 = 0 ∧ mgE bdy upr 2 = 0 := by decide +kernel
theorem c_s2 : stV bdy upr 2 = true ∧ joE bdy upr 2 = 0 := by decide +kernel
theorem c_m3 : mgV bdy upr 0 = 0 ∧ mgE bdy upr 0 = 28 := by decide +kernel
theorem c_s3 : stV bdy upr 0 = true ∧ joE bdy upr 0 = 0 := by decide +kernel
theorem c_m4 : mgV bdy qur 1 = 0 ∧ mgE bdy qur 1 = 27 := by decide +kernel
theorem c_s4 : stV bdy qur 1 = false ∧ joE bdy qur 1 = 0 := by decide +kernel
theorem c_m5 : mgV bdy qur 2 = 19 ∧ mgE bdy qur 2 = 0 := by decide +kernel
theorem c_s5 : stV bdy qur 2 = true ∧ joE bdy qur 2 = 0 := by decide +kernel
def fF : Nat → Vl := fun k => if k = 0 then upr else qur
def qF : Nat → Int := fun _ => 1
theorem c_f : fiV bdy fF qF 2 1 = 1 ∧ fiE bdy fF qF 2 1 = 0 := by decide +kernel
theorem c_f2 : fiV bdy fF qF 1 0 = 0 ∧ fiE bdy fF qF 1 0 = 2 := by decide +kernel
def gF : Vl := fun i => (uprl ++ qurl).getD i 0
theorem gF_is : ∀ i, i < 2 → ∀ j, j < 22 → gF (0 + i * 22 + j) = fF i j := by decide +kernel
theorem cz_upr : cz 22 upr = #[.int .i64 0, .int .i64 0, .int .i64 0, .int .i64 0, .int .i64 0, .int .i64 (-64), .int .i64 0, .int .i64 0, .int .i64 (-64), .int .i64 0, .int .i64 0, .int .i64 64, .int .i64 0, .int .i64 0, .int .i64 (-64), .int .i64 0, .int .i64 0, .int .i64 (-64), .int .i64 0, .int .i64 0, .int .i64 64, .int .i64 0] := by kernel_rfl
theorem cz_qur : cz 22 qur = #[.int .i64 0, .int .i64 0, .int .i64 0, .int .i64 0, .int .i64 0, .int .i64 (-64), .int .i64 0, .int .i64 0, .int .i64 (-64), .int .i64 0, .int .i64 0, .int .i64 64, .int .i64 0, .int .i64 0, .int .i64 (-64), .int .i64 0, .int .i64 64, .int .i64 0, .int .i64 0, .int .i64 0, .int .i64 64, .int .i64 0] := by kernel_rfl
theorem cz_two : #[.int .i64 0, .int .i64 0, .int .i64 0, .int .i64 0, .int .i64 0, .int .i64 (-64), .int .i64 0, .int .i64 0, .int .i64 (-64), .int .i64 0, .int .i64 0, .int .i64 64, .int .i64 0, .int .i64 0, .int .i64 (-64), .int .i64 0, .int .i64 0, .int .i64 (-64), .int .i64 0, .int .i64 0, .int .i64 64, .int .i64 0, .int .i64 0, .int .i64 0, .int .i64 0, .int .i64 0, .int .i64 0, .int .i64 (-64), .int .i64 0, .int .i64 0, .int .i64 (-64), .int .i64 0, .int .i64 0, .int .i64 64, .int .i64 0, .int .i64 0, .int .i64 (-64), .int .i64 0, .int .i64 64, .int .i64 0, .int .i64 0, .int .i64 0, .int .i64 64, .int .i64 0] = cz 44 gF := by kernel_rfl
theorem cz_one1 : #[.int .i64 0, .int .i64 0, .int .i64 0, .int .i64 0, .int .i64 0, .int .i64 (-64), .int .i64 0, .int .i64 0, .int .i64 (-64), .int .i64 0, .int .i64 0, .int .i64 64, .int .i64 0, .int .i64 0, .int .i64 (-64), .int .i64 0, .int .i64 0, .int .i64 (-64), .int .i64 0, .int .i64 0, .int .i64 64, .int .i64 0] = cz 22 gF := by kernel_rfl
theorem cz15_nul : (#[.int .i64 0, .int .i64 0, .int .i64 0, .int .i64 0, .int .i64 0, .int .i64 0, .int .i64 0, .int .i64 0, .int .i64 0, .int .i64 0, .int .i64 0, .int .i64 0, .int .i64 0, .int .i64 0, .int .i64 0] : Array Value) = cz 15 nul := rfl
theorem cz22_nul' : (#[.int .i64 0, .int .i64 0, .int .i64 0, .int .i64 0, .int .i64 0, .int .i64 0, .int .i64 0, .int .i64 0, .int .i64 0, .int .i64 0, .int .i64 0, .int .i64 0, .int .i64 0, .int .i64 0, .int .i64 0, .int .i64 0, .int .i64 0, .int .i64 0, .int .i64 0, .int .i64 0, .int .i64 0, .int .i64 0] : Array Value) = cz 22 nul := rfl
theorem heap_a2_old (w : World) (z : Array Value) (T : TypeId) (o : Obj) : ((w.alloc (.cells z T)).alloc o).heap[w.heap.size]? = some (.cells z T (0, 0)) := ((Blk.new w z T).own ((PairW.Own.refl _).alloc o)).raw
theorem heap_a2_new (w : World) (z : Array Value) (T : TypeId) (o : Obj) : ((w.alloc o).alloc (.cells z T)).heap[w.heap.size + 1]? = some (.cells z T (0, 0)) := by
  have := heap_new (w.alloc o) (.cells z T)
  rw [size_alloc] at this
  exact this
/-- What the operations of the drawn regions leave: the slices, the movement. -/
def Srow (z : Array Value) (n : Nat) (T : TypeId) : Value → World → Prop := fun v w => ∃ E, v = .slice (some ⟨E, 0, none⟩) n n ∧ Blk w E z T
def Smov (n m : Nat) : Value → World → Prop := fun v w => ∃ sv tv, v = .agg #[sv, tv] ∧ Mov sv tv fF qF n m w
theorem srow_own {z : Array Value} {n : Nat} {T : TypeId} {v : Value} {w w' : World} (h : Srow z n T v w) (g : PairW.Own w w') : Srow z n T v w' := by
  obtain ⟨E, h1, h2⟩ := h
  exact ⟨E, h1, h2.own g⟩
theorem smov_own {n m : Nat} {v : Value} {w w' : World} (h : Smov n m v w) (g : PairW.Own w w') : Smov n m v w' := by
  obtain ⟨s, t, h1, h2⟩ := h
  exact ⟨s, t, h1, h2.own g⟩
def F9 : Nat → Value → World → Prop := fun p => if p = 58 then Srow #[.int .i64 0, .int .i64 0, .int .i64 0, .int .i64 0, .int .i64 0, .int .i64 (-64), .int .i64 0, .int .i64 0, .int .i64 (-64), .int .i64 0, .int .i64 0, .int .i64 64, .int .i64 0, .int .i64 0, .int .i64 (-64), .int .i64 0, .int .i64 0, .int .i64 (-64), .int .i64 0, .int .i64 0, .int .i64 64, .int .i64 0, .int .i64 0, .int .i64 0, .int .i64 0, .int .i64 0, .int .i64 0, .int .i64 (-64), .int .i64 0, .int .i64 0, .int .i64 (-64), .int .i64 0, .int .i64 0, .int .i64 64, .int .i64 0, .int .i64 0, .int .i64 (-64), .int .i64 0, .int .i64 64, .int .i64 0, .int .i64 0, .int .i64 0, .int .i64 64, .int .i64 0] 2 31 else if p = 59 then Srow #[.int .i64 1] 1 3 else Smov 2 1
def F10 : Nat → Value → World → Prop := fun p => if p = 67 then Srow #[.int .i64 0, .int .i64 0, .int .i64 0, .int .i64 0, .int .i64 0, .int .i64 (-64), .int .i64 0, .int .i64 0, .int .i64 (-64), .int .i64 0, .int .i64 0, .int .i64 64, .int .i64 0, .int .i64 0, .int .i64 (-64), .int .i64 0, .int .i64 0, .int .i64 (-64), .int .i64 0, .int .i64 0, .int .i64 64, .int .i64 0] 1 31 else Smov 1 0
theorem f9_58 {v : Value} {w : World} : F9 58 v w = Srow #[.int .i64 0, .int .i64 0, .int .i64 0, .int .i64 0, .int .i64 0, .int .i64 (-64), .int .i64 0, .int .i64 0, .int .i64 (-64), .int .i64 0, .int .i64 0, .int .i64 64, .int .i64 0, .int .i64 0, .int .i64 (-64), .int .i64 0, .int .i64 0, .int .i64 (-64), .int .i64 0, .int .i64 0, .int .i64 64, .int .i64 0, .int .i64 0, .int .i64 0, .int .i64 0, .int .i64 0, .int .i64 0, .int .i64 (-64), .int .i64 0, .int .i64 0, .int .i64 (-64), .int .i64 0, .int .i64 0, .int .i64 64, .int .i64 0, .int .i64 0, .int .i64 (-64), .int .i64 0, .int .i64 64, .int .i64 0, .int .i64 0, .int .i64 0, .int .i64 64, .int .i64 0] 2 31 v w := rfl
theorem f9_59 {v : Value} {w : World} : F9 59 v w = Srow #[.int .i64 1] 1 3 v w := rfl
theorem f9_60 {v : Value} {w : World} : F9 60 v w = Smov 2 1 v w := rfl
theorem f10_67 {v : Value} {w : World} : F10 67 v w = Srow #[.int .i64 0, .int .i64 0, .int .i64 0, .int .i64 0, .int .i64 0, .int .i64 (-64), .int .i64 0, .int .i64 0, .int .i64 (-64), .int .i64 0, .int .i64 0, .int .i64 64, .int .i64 0, .int .i64 0, .int .i64 (-64), .int .i64 0, .int .i64 0, .int .i64 (-64), .int .i64 0, .int .i64 0, .int .i64 64, .int .i64 0] 1 31 v w := rfl
theorem f10_68 {v : Value} {w : World} : F10 68 v w = Smov 1 0 v w := rfl
def X9 (wb : World) (A B : Nat) : World → Prop := fun w1 => PairW.Own wb w1 ∧ Blk w1 A #[.int .i64 0, .int .i64 0, .int .i64 0, .int .i64 0, .int .i64 0, .int .i64 (-64), .int .i64 0, .int .i64 0, .int .i64 (-64), .int .i64 0, .int .i64 0, .int .i64 64, .int .i64 0, .int .i64 0, .int .i64 (-64), .int .i64 0, .int .i64 0, .int .i64 (-64), .int .i64 0, .int .i64 0, .int .i64 64, .int .i64 0] 31 ∧ Blk w1 B #[.int .i64 0, .int .i64 0, .int .i64 0, .int .i64 0, .int .i64 0, .int .i64 (-64), .int .i64 0, .int .i64 0, .int .i64 (-64), .int .i64 0, .int .i64 0, .int .i64 64, .int .i64 0, .int .i64 0, .int .i64 (-64), .int .i64 0, .int .i64 64, .int .i64 0, .int .i64 0, .int .i64 0, .int .i64 64, .int .i64 0] 31
def X10 (wb : World) (A : Nat) : World → Prop := fun w1 => PairW.Own wb w1 ∧ Blk w1 A #[.int .i64 0, .int .i64 0, .int .i64 0, .int .i64 0, .int .i64 0, .int .i64 (-64), .int .i64 0, .int .i64 0, .int .i64 (-64), .int .i64 0, .int .i64 0, .int .i64 64, .int .i64 0, .int .i64 0, .int .i64 (-64), .int .i64 0, .int .i64 0, .int .i64 (-64), .int .i64 0, .int .i64 0, .int .i64 64, .int .i64 0] 31
theorem stg9 {wb : World} {A B : Nat} : RegD.StgF (X9 wb A B) F9 := ⟨fun h g => ⟨h.1.trans g, h.2.1.own g, h.2.2.own g⟩, fun {p v w w'} h g => by
  by_cases e1 : p = 58
  · subst e1
    rw [f9_58] at h ⊢
    exact srow_own h g
  · by_cases e2 : p = 59
    · subst e2
      rw [f9_59] at h ⊢
      exact srow_own h g
    · have e : ∀ v w, F9 p v w = Smov 2 1 v w := fun v w => by unfold F9; rw [if_neg e1, if_neg e2]
      rw [e] at h ⊢
      exact smov_own h g⟩
theorem stg10 {wb : World} {A : Nat} : RegD.StgF (X10 wb A) F10 := ⟨fun h g => ⟨h.1.trans g, h.2.own g⟩, fun {p v w w'} h g => by
  by_cases e1 : p = 67
  · subst e1
    rw [f10_67] at h ⊢
    exact srow_own h g
  · have e : ∀ v w, F10 p v w = Smov 1 0 v w := fun v w => by unfold F10; rw [if_neg e1]
    rw [e] at h ⊢
    exact smov_own h g⟩
theorem mov9 {w : World} {E H : Nat} {T T' : TypeId} (h : Blk w E #[.int .i64 0, .int .i64 0, .int .i64 0, .int .i64 0, .int .i64 0, .int .i64 (-64), .int .i64 0, .int .i64 0, .int .i64 (-64), .int .i64 0, .int .i64 0, .int .i64 64, .int .i64 0, .int .i64 0, .int .i64 (-64), .int .i64 0, .int .i64 0, .int .i64 (-64), .int .i64 0, .int .i64 0, .int .i64 64, .int .i64 0, .int .i64 0, .int .i64 0, .int .i64 0, .int .i64 0, .int .i64 0, .int .i64 (-64), .int .i64 0, .int .i64 0, .int .i64 (-64), .int .i64 0, .int .i64 0, .int .i64 64, .int .i64 0, .int .i64 0, .int .i64 (-64), .int .i64 0, .int .i64 64, .int .i64 0, .int .i64 0, .int .i64 0, .int .i64 64, .int .i64 0] T) (k : Blk w H #[.int .i64 1] T') : Mov (.slice (some ⟨E, 0, none⟩) 2 2) (.slice (some ⟨H, 0, none⟩) 1 1) fF qF 2 1 w := by
  rw [cz_two] at h
  refine ⟨⟨_, _, rfl, fun _ => ⟨E, 0, rfl, fun i hi => ?_⟩⟩, ⟨_, _, rfl, fun _ => ⟨H, 0, rfl, fun i hi => ?_⟩⟩, by unfold maxLen; omega, by unfold maxLen; omega⟩
  · exact lie_cz fun j hj => by rw [← gF_is i hi j hj]; exact blk_num h (i := 0 + i * 22 + j) (by omega)
  · obtain rfl : i = 0 := by omega
    exact k.cell 0
theorem mov10 {w : World} {E c : Nat} {A : Option Addr} {T : TypeId} (h : Blk w E #[.int .i64 0, .int .i64 0, .int .i64 0, .int .i64 0, .int .i64 0, .int .i64 (-64), .int .i64 0, .int .i64 0, .int .i64 (-64), .int .i64 0, .int .i64 0, .int .i64 64, .int .i64 0, .int .i64 0, .int .i64 (-64), .int .i64 0, .int .i64 0, .int .i64 (-64), .int .i64 0, .int .i64 0, .int .i64 64, .int .i64 0] T) : Mov (.slice (some ⟨E, 0, none⟩) 1 1) (.slice A 0 c) fF qF 1 0 w := by
  rw [cz_one1] at h
  refine ⟨⟨_, _, rfl, fun _ => ⟨E, 0, rfl, fun i hi => ?_⟩⟩, ⟨_, _, rfl, fun h => absurd h (by omega)⟩, by unfold maxLen; omega, by unfold maxLen; omega⟩
  obtain rfl : i = 0 := by omega
  exact lie_cz fun j hj => by rw [← gF_is 0 (by omega) j hj]; exact blk_num h (i := 0 + 0 * 22 + j) (by omega)
set_option maxRecDepth 100000 in
set_option maxHeartbeats 2000000 in
theorem body_at (w : World) :
    Calls Tryd.prog 27 #[] w fun r w' => r = .returned (.agg (cz 15 bdy)) ∧ PairW.Own w w' := by
  go_enter Tryd.func27, Tryd.ntmps27
  go_upto_region 1 with (fail)
  obtain ⟨W0, P, hW, hP, hp, g0, hP0⟩ := blk_new w (cz 15 nul) 24
  rw [← cz15_nul] at hW
  rw [hW, hP]
  have HP := Lib.hid hp
  clear hW hP hp
  go_wp2_with ((with_reducible show wpList _ _ _ (⟨_, .store 24 (.tmp 0) (.tmp 2), _, _, _, none⟩ :: _) _ _); refine wpList_store_row rfl 24 (.tmp 0) (.tmp 2) rfl P (cz 15 (bdy)) rfl rfl 24 _ HP.out.raw infoB rfl (cz_one _ _) ?_)
  have hp := HP.out.row (cz 15 bdy)
  exact bodyPost_ret (blk_result rfl rfl hp Tryd.underlying24 rfl infoB) rfl ⟨rfl, own_setRow g0 hP0 _⟩
set_option maxRecDepth 100000 in
set_option maxHeartbeats 2000000 in
theorem upright_at (w : World) :
    Calls Tryd.prog 25 #[] w fun r w' => r = .returned (.agg (cz 22 upr)) ∧ PairW.Own w w' := by
  go_enter Tryd.func25, Tryd.ntmps25
  go_upto_region 1 with (fail)
  obtain ⟨W0, P, hW, hP, hp, g0, hP0⟩ := blk_new w (cz 22 nul) 31
  rw [← cz22_nul'] at hW
  rw [hW, hP]
  have HP := Lib.hid hp
  clear hW hP hp
  go_upto_region 2 with (first | (refine wpList_store_row rfl 28 (.tmp 1) (.tmp 3) rfl _ (#[.int .i64 0, .int .i64 (-64), .int .i64 0]) rfl rfl 28 _ (heap_a2_old _ _ _ _) infoA rfl (by simp [Value.oneCell']) ?_; rw [setRow_alloc2]) | (refine wpList_store_row rfl 28 (.tmp 2) (.tmp 4) rfl _ (#[.int .i64 0, .int .i64 64, .int .i64 0]) rfl rfl 28 _ (heap_a2_new _ _ _ _) infoA rfl (by simp [Value.oneCell']) ?_; rw [setRow_alloc2n]))
  obtain ⟨W1, B, C, hW, hC, hB, hb, hc, hg, -, -, -⟩ := two_new W0 (#[.int .i64 0, .int .i64 (-64), .int .i64 0]) 28 (#[.int .i64 0, .int .i64 64, .int .i64 0]) 28
  rw [hW, hC, hB]
  have HB := Lib.hid hb
  have HC := Lib.hid hc
  replace HP := Lib.hid (HP.out.own hg)
  replace g0 := g0.trans hg
  clear hW hC hB hb hc hg
  go_wp2_with (first | ((with_reducible show wpList _ _ _ (⟨_, .load 28 (.tmp 1), _, _, _, none⟩ :: _) _ _); refine wpList_load_row rfl 28 (.tmp 1) rfl B rfl 28 _ (0, 0) _ HB.out.raw Tryd.underlying28 rfl infoA ?_) | ((with_reducible show wpList _ _ _ (⟨_, .load 28 (.tmp 2), _, _, _, none⟩ :: _) _ _); refine wpList_load_row rfl 28 (.tmp 2) rfl C rfl 28 _ (0, 0) _ HC.out.raw Tryd.underlying28 rfl infoA ?_) | ((with_reducible show wpList _ _ _ (⟨_, .store 31 (.tmp 0) (.tmp 12), _, _, _, none⟩ :: _) _ _); refine wpList_store_row rfl 31 (.tmp 0) (.tmp 12) rfl P (cz 22 (upr)) rfl rfl 31 _ HP.out.raw infoP rfl (cz_one _ _) ?_))
  have hp := HP.out.row (cz 22 upr)
  exact bodyPost_ret (blk_result rfl rfl hp Tryd.underlying31 rfl infoP) rfl ⟨rfl, own_setRow g0 hP0 _⟩
set_option maxRecDepth 100000 in
set_option maxHeartbeats 2000000 in
theorem margin_at (p : Vl) (s n e : Int) (t : Bool) (w : World) (HT : Hid (AngW.Tab w)) (HBT : Hid (BuiW.Tab w)) (HS : Hid (Sds w)) (HM : Hid (mgV bdy p s = n ∧ mgE bdy p s = e)) (HST : Hid (stV bdy p s = t ∧ joE bdy p s = 0)) (he : (e = 27 ∧ t = false) ∨ (e ≠ 27 ∧ t = true)) :
    Calls Tryd.prog 26 #[.agg (cz 22 p), .int .i64 s, .int .i64 n, .int .i64 e] w fun r w' => r = .returned (.bool true) ∧ PairW.Own w w' := by
  rcases he with ⟨rfl, rfl⟩ | ⟨he, rfl⟩
  · skip
    go_enter Tryd.func26, Tryd.ntmps26
    go_upto_region 1 with (fail)
    obtain ⟨W0, P, hW, hP, hp, g0, -⟩ := blk_new w (cz 22 p) 31
    rw [hW, hP]
    have HP := Lib.hid hp
    clear hW hP hp
    refine RegD.region_duty [14, 15, 16, 17, 13, 18, 19, 9, 10] (RegI.upd (RegI.upd (RegI.upd (RegI.upd (RegI.upd (RegI.upd (RegI.upd (RegI.upd (RegI.upd (fun _ => undef) 14 (.agg (cz 15 bdy))) 15 (.agg (cz 22 p))) 16 (.int .i64 s)) 17 (.tuple #[.int .i64 n, .int .i64 27])) 13 (.tuple #[.int .i64 n, .int .i64 27])) 18 (.int .i64 n)) 19 (.int .i64 27)) 9 (.int .i64 n)) 10 (.int .i64 27)) (by kernel_rfl) (by kernel_rfl) (by intro d hd; simp at hd; simp; omega) ?_
    simp only [RegD.FF, RegI.FX, RegI.upd, List.foldl_cons, List.foldl_nil, List.not_mem_nil, if_true, if_false, Nat.reduceEqDiff]
    simp only [List.setIfInBounds_toArray, List.set_cons_succ, List.set_cons_zero]
    refine And.intro ?hs1 ?he1
    case hs1 =>
      refine And.intro ?s1_0 (And.intro ?s1_1 (And.intro ?s1_2 (And.intro ?s1_3 (And.intro ?s1_4 (And.intro ?s1_5 (And.intro ?s1_6 (And.intro ?s1_7 (And.intro ?s1_8 (trivial)))))))))
      case s1_0 =>
        intro u w1 hO
        go_wp2_with (go_at_call 27; with_reducible refine (body_at _).mono ?_; rintro r w2 ⟨rfl, hg⟩)
        exact ⟨rfl, rfl, rfl, hg⟩
      case s1_1 =>
        intro u w1 hO
        have HB9 := Lib.hid (HP.out.own hO)
        go_wp2_with ((with_reducible show wpList _ _ _ (⟨_, .load 31 (.tmp 4), _, _, _, none⟩ :: _) _ _); refine wpList_load_row rfl 31 (.tmp 4) rfl P rfl 31 _ (0, 0) _ HB9.out.raw Tryd.underlying31 rfl infoP ?_)
        exact ⟨rfl, rfl, rfl, PairW.Own.refl _⟩
      case s1_2 =>
        intro u w1 hO
        go_wp2
        exact ⟨rfl, rfl, rfl, PairW.Own.refl _⟩
      case s1_3 =>
        intro u w1 hO
        go_wp2_with (go_at_call 15; with_reducible refine (bMar_at bdy p s n 27 _ (Lib.hid (tab_own HT.out (g0.trans hO))) (Lib.hid (HBT.out.own (g0.trans hO))) (Lib.hid (HS.out.own (g0.trans hO))) HM).mono ?_; rintro r w2 ⟨rfl, hg⟩)
        exact ⟨rfl, rfl, rfl, hg⟩
      case s1_4 =>
        intro u w1 hO
        go_wp2
        exact ⟨rfl, rfl, rfl, PairW.Own.refl _⟩
      case s1_5 =>
        intro u w1 hO
        go_wp2
        exact ⟨rfl, rfl, rfl, PairW.Own.refl _⟩
      case s1_6 =>
        intro u w1 hO
        go_wp2
        exact ⟨rfl, rfl, rfl, PairW.Own.refl _⟩
      case s1_7 =>
        intro u w1 hO
        go_wp2
        exact ⟨rfl, rfl, rfl, PairW.Own.refl _⟩
      case s1_8 =>
        intro u w1 hO
        go_wp2
        exact ⟨rfl, rfl, rfl, PairW.Own.refl _⟩
    intro u w2 hO
    replace g0 := g0.trans hO
    replace HP := Lib.hid (HP.out.own hO)
    clear hO
    go_upto_region 2 with (fail)
    refine RegD.region_duty [21, 22, 23, 24, 20, 25, 26, 11, 12] (RegI.upd (RegI.upd (RegI.upd (RegI.upd (RegI.upd (RegI.upd (RegI.upd (RegI.upd (RegI.upd (fun _ => undef) 21 (.agg (cz 15 bdy))) 22 (.agg (cz 22 p))) 23 (.int .i64 s)) 24 (.tuple #[.bool false, .int .i64 0])) 20 (.tuple #[.bool false, .int .i64 0])) 25 (.bool false)) 26 (.int .i64 0)) 11 (.bool false)) 12 (.int .i64 0)) (by kernel_rfl) (by kernel_rfl) (by intro d hd; simp at hd; simp; omega) ?_
    simp only [RegD.FF, RegI.FX, RegI.upd, List.foldl_cons, List.foldl_nil, List.not_mem_nil, if_true, if_false, Nat.reduceEqDiff]
    simp only [List.setIfInBounds_toArray, List.set_cons_succ, List.set_cons_zero]
    refine And.intro ?hs2 ?he2
    case hs2 =>
      refine And.intro ?s2_0 (And.intro ?s2_1 (And.intro ?s2_2 (And.intro ?s2_3 (And.intro ?s2_4 (And.intro ?s2_5 (And.intro ?s2_6 (And.intro ?s2_7 (And.intro ?s2_8 (trivial)))))))))
      case s2_0 =>
        intro u w1 hO
        go_wp2_with (go_at_call 27; with_reducible refine (body_at _).mono ?_; rintro r w2 ⟨rfl, hg⟩)
        exact ⟨rfl, rfl, rfl, hg⟩
      case s2_1 =>
        intro u w1 hO
        have HB9 := Lib.hid (HP.out.own hO)
        go_wp2_with ((with_reducible show wpList _ _ _ (⟨_, .load 31 (.tmp 4), _, _, _, none⟩ :: _) _ _); refine wpList_load_row rfl 31 (.tmp 4) rfl P rfl 31 _ (0, 0) _ HB9.out.raw Tryd.underlying31 rfl infoP ?_)
        exact ⟨rfl, rfl, rfl, PairW.Own.refl _⟩
      case s2_2 =>
        intro u w1 hO
        go_wp2
        exact ⟨rfl, rfl, rfl, PairW.Own.refl _⟩
      case s2_3 =>
        intro u w1 hO
        go_wp2_with (go_at_call 14; with_reducible refine (bSta_at bdy p s false 0 _ (Lib.hid (tab_own HT.out (g0.trans hO))) (Lib.hid (HBT.out.own (g0.trans hO))) (Lib.hid (HS.out.own (g0.trans hO))) HST).mono ?_; rintro r w2 ⟨rfl, hg⟩)
        exact ⟨rfl, rfl, rfl, hg⟩
      case s2_4 =>
        intro u w1 hO
        go_wp2
        exact ⟨rfl, rfl, rfl, PairW.Own.refl _⟩
      case s2_5 =>
        intro u w1 hO
        go_wp2
        exact ⟨rfl, rfl, rfl, PairW.Own.refl _⟩
      case s2_6 =>
        intro u w1 hO
        go_wp2
        exact ⟨rfl, rfl, rfl, PairW.Own.refl _⟩
      case s2_7 =>
        intro u w1 hO
        go_wp2
        exact ⟨rfl, rfl, rfl, PairW.Own.refl _⟩
      case s2_8 =>
        intro u w1 hO
        go_wp2
        exact ⟨rfl, rfl, rfl, PairW.Own.refl _⟩
    intro u w3 hO
    replace g0 := g0.trans hO
    clear hO HP
    go_wp2
    go_ret
    exact ⟨rfl, g0⟩
  · have kc : (e != 27) = true := bne_iff_ne.2 he
    have kd : decide (e = 27) = false := decide_eq_false he
    clear he
    go_enter Tryd.func26, Tryd.ntmps26
    go_upto_region 1 with (fail)
    obtain ⟨W0, P, hW, hP, hp, g0, -⟩ := blk_new w (cz 22 p) 31
    rw [hW, hP]
    have HP := Lib.hid hp
    clear hW hP hp
    refine RegD.region_duty [14, 15, 16, 17, 13, 18, 19, 9, 10] (RegI.upd (RegI.upd (RegI.upd (RegI.upd (RegI.upd (RegI.upd (RegI.upd (RegI.upd (RegI.upd (fun _ => undef) 14 (.agg (cz 15 bdy))) 15 (.agg (cz 22 p))) 16 (.int .i64 s)) 17 (.tuple #[.int .i64 n, .int .i64 e])) 13 (.tuple #[.int .i64 n, .int .i64 e])) 18 (.int .i64 n)) 19 (.int .i64 e)) 9 (.int .i64 n)) 10 (.int .i64 e)) (by kernel_rfl) (by kernel_rfl) (by intro d hd; simp at hd; simp; omega) ?_
    simp only [RegD.FF, RegI.FX, RegI.upd, List.foldl_cons, List.foldl_nil, List.not_mem_nil, if_true, if_false, Nat.reduceEqDiff]
    simp only [List.setIfInBounds_toArray, List.set_cons_succ, List.set_cons_zero]
    refine And.intro ?hs3 ?he3
    case hs3 =>
      refine And.intro ?s3_0 (And.intro ?s3_1 (And.intro ?s3_2 (And.intro ?s3_3 (And.intro ?s3_4 (And.intro ?s3_5 (And.intro ?s3_6 (And.intro ?s3_7 (And.intro ?s3_8 (trivial)))))))))
      case s3_0 =>
        intro u w1 hO
        go_wp2_with (go_at_call 27; with_reducible refine (body_at _).mono ?_; rintro r w2 ⟨rfl, hg⟩)
        exact ⟨rfl, rfl, rfl, hg⟩
      case s3_1 =>
        intro u w1 hO
        have HB9 := Lib.hid (HP.out.own hO)
        go_wp2_with ((with_reducible show wpList _ _ _ (⟨_, .load 31 (.tmp 4), _, _, _, none⟩ :: _) _ _); refine wpList_load_row rfl 31 (.tmp 4) rfl P rfl 31 _ (0, 0) _ HB9.out.raw Tryd.underlying31 rfl infoP ?_)
        exact ⟨rfl, rfl, rfl, PairW.Own.refl _⟩
      case s3_2 =>
        intro u w1 hO
        go_wp2
        exact ⟨rfl, rfl, rfl, PairW.Own.refl _⟩
      case s3_3 =>
        intro u w1 hO
        go_wp2_with (go_at_call 15; with_reducible refine (bMar_at bdy p s n e _ (Lib.hid (tab_own HT.out (g0.trans hO))) (Lib.hid (HBT.out.own (g0.trans hO))) (Lib.hid (HS.out.own (g0.trans hO))) HM).mono ?_; rintro r w2 ⟨rfl, hg⟩)
        exact ⟨rfl, rfl, rfl, hg⟩
      case s3_4 =>
        intro u w1 hO
        go_wp2
        exact ⟨rfl, rfl, rfl, PairW.Own.refl _⟩
      case s3_5 =>
        intro u w1 hO
        go_wp2
        exact ⟨rfl, rfl, rfl, PairW.Own.refl _⟩
      case s3_6 =>
        intro u w1 hO
        go_wp2
        exact ⟨rfl, rfl, rfl, PairW.Own.refl _⟩
      case s3_7 =>
        intro u w1 hO
        go_wp2
        exact ⟨rfl, rfl, rfl, PairW.Own.refl _⟩
      case s3_8 =>
        intro u w1 hO
        go_wp2
        exact ⟨rfl, rfl, rfl, PairW.Own.refl _⟩
    intro u w2 hO
    replace g0 := g0.trans hO
    replace HP := Lib.hid (HP.out.own hO)
    clear hO
    go_upto_region 2 with (fail)
    refine RegD.region_duty [21, 22, 23, 24, 20, 25, 26, 11, 12] (RegI.upd (RegI.upd (RegI.upd (RegI.upd (RegI.upd (RegI.upd (RegI.upd (RegI.upd (RegI.upd (fun _ => undef) 21 (.agg (cz 15 bdy))) 22 (.agg (cz 22 p))) 23 (.int .i64 s)) 24 (.tuple #[.bool true, .int .i64 0])) 20 (.tuple #[.bool true, .int .i64 0])) 25 (.bool true)) 26 (.int .i64 0)) 11 (.bool true)) 12 (.int .i64 0)) (by kernel_rfl) (by kernel_rfl) (by intro d hd; simp at hd; simp; omega) ?_
    simp only [RegD.FF, RegI.FX, RegI.upd, List.foldl_cons, List.foldl_nil, List.not_mem_nil, if_true, if_false, Nat.reduceEqDiff]
    simp only [List.setIfInBounds_toArray, List.set_cons_succ, List.set_cons_zero]
    refine And.intro ?hs4 ?he4
    case hs4 =>
      refine And.intro ?s4_0 (And.intro ?s4_1 (And.intro ?s4_2 (And.intro ?s4_3 (And.intro ?s4_4 (And.intro ?s4_5 (And.intro ?s4_6 (And.intro ?s4_7 (And.intro ?s4_8 (trivial)))))))))
      case s4_0 =>
        intro u w1 hO
        go_wp2_with (go_at_call 27; with_reducible refine (body_at _).mono ?_; rintro r w2 ⟨rfl, hg⟩)
        exact ⟨rfl, rfl, rfl, hg⟩
      case s4_1 =>
        intro u w1 hO
        have HB9 := Lib.hid (HP.out.own hO)
        go_wp2_with ((with_reducible show wpList _ _ _ (⟨_, .load 31 (.tmp 4), _, _, _, none⟩ :: _) _ _); refine wpList_load_row rfl 31 (.tmp 4) rfl P rfl 31 _ (0, 0) _ HB9.out.raw Tryd.underlying31 rfl infoP ?_)
        exact ⟨rfl, rfl, rfl, PairW.Own.refl _⟩
      case s4_2 =>
        intro u w1 hO
        go_wp2
        exact ⟨rfl, rfl, rfl, PairW.Own.refl _⟩
      case s4_3 =>
        intro u w1 hO
        go_wp2_with (go_at_call 14; with_reducible refine (bSta_at bdy p s true 0 _ (Lib.hid (tab_own HT.out (g0.trans hO))) (Lib.hid (HBT.out.own (g0.trans hO))) (Lib.hid (HS.out.own (g0.trans hO))) HST).mono ?_; rintro r w2 ⟨rfl, hg⟩)
        exact ⟨rfl, rfl, rfl, hg⟩
      case s4_4 =>
        intro u w1 hO
        go_wp2
        exact ⟨rfl, rfl, rfl, PairW.Own.refl _⟩
      case s4_5 =>
        intro u w1 hO
        go_wp2
        exact ⟨rfl, rfl, rfl, PairW.Own.refl _⟩
      case s4_6 =>
        intro u w1 hO
        go_wp2
        exact ⟨rfl, rfl, rfl, PairW.Own.refl _⟩
      case s4_7 =>
        intro u w1 hO
        go_wp2
        exact ⟨rfl, rfl, rfl, PairW.Own.refl _⟩
      case s4_8 =>
        intro u w1 hO
        go_wp2
        exact ⟨rfl, rfl, rfl, PairW.Own.refl _⟩
    intro u w3 hO
    replace g0 := g0.trans hO
    clear hO HP
    go_wp2
    go_ret
    exact ⟨rfl, g0⟩
set_option maxRecDepth 100000 in
set_option maxHeartbeats 40000000 in
theorem awake_at (w : World) (HT : Hid (AngW.Tab w)) (HBT : Hid (BuiW.Tab w)) (HS : Hid (Sds w)) :
    Calls Tryd.prog 10 #[] w fun r w' => r = .returned (.bool true) ∧ PairW.Own w w' := by
  have CM0 := Lib.hid c_m0
  have CS0 := Lib.hid c_s0
  have CM1 := Lib.hid c_m1
  have CS1 := Lib.hid c_s1
  have CM2 := Lib.hid c_m2
  have CS2 := Lib.hid c_s2
  have CM3 := Lib.hid c_m3
  have CS3 := Lib.hid c_s3
  have CM4 := Lib.hid c_m4
  have CS4 := Lib.hid c_s4
  have CM5 := Lib.hid c_m5
  have CS5 := Lib.hid c_s5
  have CC := Lib.hid c_c
  have CF := Lib.hid c_f
  have CF2 := Lib.hid c_f2
  have g0 : PairW.Own w w := PairW.Own.refl w
  go_enter Tryd.func10, Tryd.ntmps10
  go_upto_region 2 with (first | (go_at_call 25; with_reducible refine (upright_at _).mono ?_; rintro r w1 ⟨rfl, hg⟩; replace g0 := g0.trans hg; clear hg) | ((with_reducible show wpList _ _ _ (⟨_, .store 31 (.tmp 1) (.tmp 8), _, _, _, none⟩ :: _) _ _); refine wpList_store_row rfl 31 (.tmp 1) (.tmp 8) rfl _ (cz 22 (upr)) rfl rfl 31 _ (heap_new _ _) infoP rfl (cz_one _ _) ?_; rw [World.setRow_alloc_new]))
  obtain ⟨w2, A, hW, hBq, hb, hg, Ag⟩ := blk_new w1 (cz 22 upr) 31
  rw [hW, hBq]
  have HA := Lib.hid hb
  replace g0 := g0.trans hg
  clear hW hBq hb hg
  clear Ag
  go_upto_region 4 with (first | ((with_reducible show wpList _ _ _ (⟨_, .load 31 (.tmp 1), _, _, _, none⟩ :: _) _ _); refine wpList_load_row rfl 31 (.tmp 1) rfl A rfl 31 _ (0, 0) _ HA.out.raw Tryd.underlying31 rfl infoP ?_) | ((with_reducible show wpList _ _ _ (⟨_, .load 31 (.tmp 1), _, _, _, some _⟩ :: _) _ _); refine wpList_load_row_g rfl 31 (.tmp 1) rfl A rfl 31 _ (0, 0) _ HA.out.raw Tryd.underlying31 rfl infoP ?_) | (go_at_call 26; with_reducible refine (margin_at upr 3 100 0 true _ (Lib.hid (tab_own HT.out g0)) (Lib.hid (HBT.out.own g0)) (Lib.hid (HS.out.own g0)) CM0 CS0 (by decide)).mono ?_; rintro r w3 ⟨rfl, hg⟩; replace g0 := g0.trans hg; replace HA := Lib.hid (HA.out.own hg); clear hg) | (go_at_call 26; with_reducible refine (margin_at upr 1 0 0 true _ (Lib.hid (tab_own HT.out g0)) (Lib.hid (HBT.out.own g0)) (Lib.hid (HS.out.own g0)) CM1 CS1 (by decide)).mono ?_; rintro r w3 ⟨rfl, hg⟩; replace g0 := g0.trans hg; replace HA := Lib.hid (HA.out.own hg); clear hg) | (go_at_call 26; with_reducible refine (margin_at upr 2 0 0 true _ (Lib.hid (tab_own HT.out g0)) (Lib.hid (HBT.out.own g0)) (Lib.hid (HS.out.own g0)) CM2 CS2 (by decide)).mono ?_; rintro r w3 ⟨rfl, hg⟩; replace g0 := g0.trans hg; replace HA := Lib.hid (HA.out.own hg); clear hg) | (go_at_call 26; with_reducible refine (margin_at upr 0 0 28 true _ (Lib.hid (tab_own HT.out g0)) (Lib.hid (HBT.out.own g0)) (Lib.hid (HS.out.own g0)) CM3 CS3 (by decide)).mono ?_; rintro r w3 ⟨rfl, hg⟩; replace g0 := g0.trans hg; replace HA := Lib.hid (HA.out.own hg); clear hg))
  clear CM0 CM1 CM2 CM3 CS0 CS1 CS2 CS3
  go_upto_region 5 with (first | (go_at_call 25; with_reducible refine (upright_at _).mono ?_; rintro r w4 ⟨rfl, hg⟩; replace g0 := g0.trans hg; replace HA := Lib.hid (HA.out.own hg); clear hg) | ((with_reducible show wpList _ _ _ (⟨_, .store 31 (.tmp 2) (.tmp 27), _, _, _, none⟩ :: _) _ _); refine wpList_store_row rfl 31 (.tmp 2) (.tmp 27) rfl _ (cz 22 (upr)) rfl rfl 31 _ (heap_new _ _) infoP rfl (cz_one _ _) ?_; rw [World.setRow_alloc_new]))
  obtain ⟨w5, B, hW, hBq, hb, hg, Bg⟩ := blk_new w4 (cz 22 upr) 31
  have hAB := Nat.ne_of_lt (Nat.lt_of_lt_of_le HA.out.lt Bg)
  have hB0 : w.heap.size ≤ B := Nat.le_trans g0.size Bg
  rw [hW, hBq]
  have HB := Lib.hid hb
  replace g0 := g0.trans hg
  replace HA := Lib.hid (HA.out.own hg)
  clear hW hBq hb hg
  clear Bg
  go_upto_region 6 with ((with_reducible show wpList _ _ _ (⟨_, .store 28 (.tmp 30) (.tmp 28), _, _, _, none⟩ :: _) _ _); refine wpList_store_part rfl 28 (.tmp 30) (.tmp 28) rfl B (16) 3 (l3 64 0 0) rfl (#[.int .i64 64, .int .i64 0, .int .i64 0]) rfl rfl HB.out (by omega) infoA ?_)
  have hb9 := HB.out.row (cz 22 (put upr 16 3 (l3 64 0 0)))
  have h9HA := HA.out.rowfar hAB (cz 22 (put upr 16 3 (l3 64 0 0)))
  replace g0 := own_setRow g0 hB0 (cz 22 (put upr 16 3 (l3 64 0 0)))
  clear HB HA
  generalize w5.setRow B (cz 22 (put upr 16 3 (l3 64 0 0))) = w6 at *
  have HB := Lib.hid hb9
  have HA := Lib.hid h9HA
  clear hb9 h9HA
  rw [show cz 22 (put upr 16 3 (l3 64 0 0)) = cz 22 qur from cz_congr (by decide +kernel)] at HB
  go_frame
  refine RegD.region_dutyN [32, 33, 34, 31, 35, 36, 3, 4] 3 6 7 (RegI.upd (RegI.upd (RegI.upd (RegI.upd (RegI.upd (RegI.upd (RegI.upd (fun _ => undef) 32 (.agg (cz 15 bdy))) 33 (.agg (cz 22 qur))) 34 (.tuple #[.agg #[.int .i64 19, .int .i64 0], .int .i64 0])) 31 (.tuple #[.agg #[.int .i64 19, .int .i64 0], .int .i64 0])) 35 (.agg #[.int .i64 19, .int .i64 0])) 36 (.int .i64 0)) 4 (.int .i64 0)) (#[.int .i64 0, .int .i64 0]) (#[.int .i64 19, .int .i64 0]) 26 (by kernel_rfl) (by kernel_rfl) (by decide) (by intro d hd; simp at hd; simp; omega) ?_
  simp only [RegD.FF, RegI.FX, RegI.upd, List.foldl_cons, List.foldl_nil, List.mem_cons, List.not_mem_nil, if_true, if_false, Nat.reduceEqDiff, or_false]
  simp only [List.setIfInBounds_toArray, List.set_cons_succ, List.set_cons_zero]
  refine And.intro ?hs5 ?he5
  case hs5 =>
    refine And.intro ?s5_0 (And.intro ?s5_1 (And.intro ?s5_2 (And.intro ?s5_3 (And.intro ?s5_4 (And.intro ?s5_5 (And.intro ?s5_6 (And.intro ?s5_7 (And.intro ?s5_8 (trivial)))))))))
    case s5_0 =>
      refine RegD.stepN_det (by decide) (by decide) (by simp) (fun u w1 hO => ?_)
      go_wp2_with (go_at_call 27; with_reducible refine (body_at _).mono ?_; rintro r w2 ⟨rfl, hg⟩)
      exact ⟨rfl, rfl, rfl, hg⟩
    case s5_1 =>
      refine RegD.stepN_det (by decide) (by decide) (by simp) (fun u w1 hO => ?_)
      have HB9 := Lib.hid (HB.out.own hO)
      go_wp2_with ((with_reducible show wpList _ _ _ (⟨_, .load 31 (.tmp 2), _, _, _, none⟩ :: _) _ _); refine wpList_load_row rfl 31 (.tmp 2) rfl B rfl 31 _ (0, 0) _ HB9.out.raw Tryd.underlying31 rfl infoP ?_)
      exact ⟨rfl, rfl, rfl, PairW.Own.refl _⟩
    case s5_2 =>
      refine RegD.stepN_det (by decide) (by decide) (by simp) (fun u w1 hO => ?_)
      go_wp2_with (go_at_call 8; with_reducible refine (bCen_at bdy qur 3 19 0 0 _ (Lib.hid (tab_own HT.out (g0.trans hO))) (Lib.hid (HBT.out.own (g0.trans hO))) (Lib.hid (HS.out.own (g0.trans hO))) CC).mono ?_; rintro r w2 ⟨rfl, hg⟩)
      exact ⟨rfl, rfl, rfl, hg⟩
    case s5_3 =>
      refine RegD.stepN_det (by decide) (by decide) (by simp) (fun u w1 hO => ?_)
      go_wp2
      exact ⟨rfl, rfl, rfl, PairW.Own.refl _⟩
    case s5_4 =>
      refine RegD.stepN_det (by decide) (by decide) (by simp) (fun u w1 hO => ?_)
      go_wp2
      exact ⟨rfl, rfl, rfl, PairW.Own.refl _⟩
    case s5_5 =>
      refine RegD.stepN_det (by decide) (by decide) (by simp) (fun u w1 hO => ?_)
      go_wp2
      exact ⟨rfl, rfl, rfl, PairW.Own.refl _⟩
    case s5_6 =>
      refine RegD.stepN_alloc rfl (fun u w1 hO => ?_)
      go_wp2
      exact ⟨rfl, rfl, rfl, rfl⟩
    case s5_7 =>
      refine RegD.stepN_store (by decide) rfl (by kernel_rfl) (fun u w1 N hO hu hN => ?_)
      have HN := Lib.hid hN
      simp only [hu]
      clear hN
      go_wp2_with ((with_reducible show wpList _ _ _ (⟨_, .store 26 (.tmp 3) (.tmp 35), _, _, _, none⟩ :: _) _ _); refine wpList_store_row rfl 26 (.tmp 3) (.tmp 35) rfl N #[.int .i64 19, .int .i64 0] rfl rfl 26 _ HN.out.raw PstW.infoPt rfl (by simp [Value.oneCell']) ?_)
      exact ⟨rfl, rfl, rfl⟩
    case s5_8 =>
      refine RegD.stepN_det (by decide) (by decide) (by simp) (fun u w1 hO => ?_)
      go_wp2
      exact ⟨rfl, rfl, rfl, PairW.Own.refl _⟩
  intro u w7 C hO hu hN0 hN
  simp only [hu]
  replace g0 := g0.trans hO
  replace HA := Lib.hid (HA.out.own hO)
  replace HB := Lib.hid (HB.out.own hO)
  have HC := Lib.hid hN
  clear hO hu hN0 hN
  go_upto_region 9 with (first | ((with_reducible show wpList _ _ _ (⟨_, .load 26 (.tmp 3), _, _, _, none⟩ :: _) _ _); refine wpList_load_row rfl 26 (.tmp 3) rfl C rfl 26 _ (0, 0) _ HC.out.raw Tryd.underlying26 rfl PstW.infoPt ?_) | ((with_reducible show wpList _ _ _ (⟨_, .load 26 (.tmp 3), _, _, _, some _⟩ :: _) _ _); refine wpList_load_row_g rfl 26 (.tmp 3) rfl C rfl 26 _ (0, 0) _ HC.out.raw Tryd.underlying26 rfl PstW.infoPt ?_) | ((with_reducible show wpList _ _ _ (⟨_, .load 31 (.tmp 2), _, _, _, none⟩ :: _) _ _); refine wpList_load_row rfl 31 (.tmp 2) rfl B rfl 31 _ (0, 0) _ HB.out.raw Tryd.underlying31 rfl infoP ?_) | ((with_reducible show wpList _ _ _ (⟨_, .load 31 (.tmp 2), _, _, _, some _⟩ :: _) _ _); refine wpList_load_row_g rfl 31 (.tmp 2) rfl B rfl 31 _ (0, 0) _ HB.out.raw Tryd.underlying31 rfl infoP ?_) | (go_at_call 26; with_reducible refine (margin_at qur 1 0 27 false _ (Lib.hid (tab_own HT.out g0)) (Lib.hid (HBT.out.own g0)) (Lib.hid (HS.out.own g0)) CM4 CS4 (by decide)).mono ?_; rintro r w8 ⟨rfl, hg⟩; replace g0 := g0.trans hg; replace HA := Lib.hid (HA.out.own hg); replace HB := Lib.hid (HB.out.own hg); replace HC := Lib.hid (HC.out.own hg); clear hg) | (go_at_call 26; with_reducible refine (margin_at qur 2 19 0 true _ (Lib.hid (tab_own HT.out g0)) (Lib.hid (HBT.out.own g0)) (Lib.hid (HS.out.own g0)) CM5 CS5 (by decide)).mono ?_; rintro r w8 ⟨rfl, hg⟩; replace g0 := g0.trans hg; replace HA := Lib.hid (HA.out.own hg); replace HB := Lib.hid (HB.out.own hg); replace HC := Lib.hid (HC.out.own hg); clear hg))
  clear HC CM4 CM5 CS4 CS5 CC
  have hX0 : X9 w8 A B w8 := ⟨PairW.Own.refl _, by rw [← cz_upr]; exact HA.out, by rw [← cz_qur]; exact HB.out⟩
  clear HA HB
  refine RegD.region_dutyF [55, 56, 57, 58, 59, 60, 61, 54, 62, 63, 5, 4] [(3, 58), (4, 59), (5, 60)] [58, 59, 60] (RegI.upd (RegI.upd (RegI.upd (RegI.upd (RegI.upd (RegI.upd (RegI.upd (RegI.upd (RegI.upd (fun _ => undef) 55 (.agg (cz 15 bdy))) 56 (.agg #[.int .i64 0, .int .i64 0, .int .i64 0, .int .i64 0, .int .i64 0, .int .i64 (-64), .int .i64 0, .int .i64 0, .int .i64 (-64), .int .i64 0, .int .i64 0, .int .i64 64, .int .i64 0, .int .i64 0, .int .i64 (-64), .int .i64 0, .int .i64 0, .int .i64 (-64), .int .i64 0, .int .i64 0, .int .i64 64, .int .i64 0])) 57 (.agg #[.int .i64 0, .int .i64 0, .int .i64 0, .int .i64 0, .int .i64 0, .int .i64 (-64), .int .i64 0, .int .i64 0, .int .i64 (-64), .int .i64 0, .int .i64 0, .int .i64 64, .int .i64 0, .int .i64 0, .int .i64 (-64), .int .i64 0, .int .i64 64, .int .i64 0, .int .i64 0, .int .i64 0, .int .i64 64, .int .i64 0])) 61 (.tuple #[.int .i64 1, .int .i64 0])) 54 (.tuple #[.int .i64 1, .int .i64 0])) 62 (.int .i64 1)) 63 (.int .i64 0)) 5 (.int .i64 1)) 4 (.int .i64 0)) (X9 w8 A B) (F9) (by kernel_rfl) (by kernel_rfl) (by decide) (by intro d hd; simp at hd; simp; omega) (stg9) (hX0) ?_
  simp only [RegD.FF, RegI.FX, RegI.upd, List.foldl_cons, List.foldl_nil, List.mem_cons, List.not_mem_nil, if_true, if_false, Nat.reduceEqDiff, or_false, or_true]
  simp only [List.setIfInBounds_toArray, List.set_cons_succ, List.set_cons_zero]
  refine And.intro ?hs6 ?he6
  case hs6 =>
    refine And.intro ?s6_0 (And.intro ?s6_1 (And.intro ?s6_2 (And.intro ?s6_3 (And.intro ?s6_4 (And.intro ?s6_5 (And.intro ?s6_6 (And.intro ?s6_7 (And.intro ?s6_8 (And.intro ?s6_9 (And.intro ?s6_10 (And.intro ?s6_11 (trivial))))))))))))
    case s6_0 =>
      refine RegD.stepF_det (by decide) (by simp) (fun u w1 hK => ?_)
      clear hK
      go_wp2_with (go_at_call 27; with_reducible refine (body_at _).mono ?_; rintro r w2 ⟨rfl, hg⟩)
      exact ⟨rfl, rfl, rfl, hg⟩
    case s6_1 =>
      refine RegD.stepF_det (by decide) (by simp) (fun u w1 hK => ?_)
      have HB9 := Lib.hid hK.1.2.1
      clear hK
      go_wp2_with ((with_reducible show wpList _ _ _ (⟨_, .load 31 (.tmp 1), _, _, _, none⟩ :: _) _ _); refine wpList_load_row rfl 31 (.tmp 1) rfl A rfl 31 _ (0, 0) _ HB9.out.raw Tryd.underlying31 rfl infoP ?_)
      exact ⟨rfl, rfl, rfl, PairW.Own.refl _⟩
    case s6_2 =>
      refine RegD.stepF_det (by decide) (by simp) (fun u w1 hK => ?_)
      have HB9 := Lib.hid hK.1.2.2
      clear hK
      go_wp2_with ((with_reducible show wpList _ _ _ (⟨_, .load 31 (.tmp 2), _, _, _, none⟩ :: _) _ _); refine wpList_load_row rfl 31 (.tmp 2) rfl B rfl 31 _ (0, 0) _ HB9.out.raw Tryd.underlying31 rfl infoP ?_)
      exact ⟨rfl, rfl, rfl, PairW.Own.refl _⟩
    case s6_3 =>
      refine RegD.stepF_fact 58 (by decide) (by decide) rfl (fun u w1 hK => ?_)
      clear hK
      go_wp2
      exact ⟨rfl, rfl, (PairW.Own.refl w1).alloc _, f9_58.mpr ⟨w1.heap.size, rfl, Blk.new w1 _ _⟩⟩
    case s6_4 =>
      refine RegD.stepF_fact 59 (by decide) (by decide) rfl (fun u w1 hK => ?_)
      clear hK
      go_wp2
      exact ⟨rfl, rfl, (PairW.Own.refl w1).alloc _, f9_59.mpr ⟨w1.heap.size, rfl, Blk.new w1 _ _⟩⟩
    case s6_5 =>
      refine RegD.stepF_fact 60 (by decide) (by decide) rfl (fun u w1 hK => ?_)
      have h1 : Srow #[.int .i64 0, .int .i64 0, .int .i64 0, .int .i64 0, .int .i64 0, .int .i64 (-64), .int .i64 0, .int .i64 0, .int .i64 (-64), .int .i64 0, .int .i64 0, .int .i64 64, .int .i64 0, .int .i64 0, .int .i64 (-64), .int .i64 0, .int .i64 0, .int .i64 (-64), .int .i64 0, .int .i64 0, .int .i64 64, .int .i64 0, .int .i64 0, .int .i64 0, .int .i64 0, .int .i64 0, .int .i64 0, .int .i64 (-64), .int .i64 0, .int .i64 0, .int .i64 (-64), .int .i64 0, .int .i64 0, .int .i64 64, .int .i64 0, .int .i64 0, .int .i64 (-64), .int .i64 0, .int .i64 64, .int .i64 0, .int .i64 0, .int .i64 0, .int .i64 64, .int .i64 0] 2 31 (u 58) w1 := hK.2 (3, 58) (by decide) (by kernel_rfl)
      have h2 : Srow #[.int .i64 1] 1 3 (u 59) w1 := hK.2 (4, 59) (by decide) (by kernel_rfl)
      obtain ⟨E, hu, hb⟩ := h1
      obtain ⟨H, hv, hc⟩ := h2
      have HMV := Lib.hid (mov9 hb hc)
      clear hK hb hc
      simp only [hu, hv]
      clear hu hv
      go_wp2
      exact ⟨rfl, rfl, PairW.Own.refl _, f9_60.mpr ⟨_, _, rfl, HMV.out⟩⟩
    case s6_6 =>
      refine RegD.stepF_det (by decide) (by simp) (fun u w1 hK => ?_)
      have h0 : Smov 2 1 (u 60) w1 := hK.2 (5, 60) (by decide) (by kernel_rfl)
      have hO := hK.1.1
      obtain ⟨sv, tv, hu, hm⟩ := h0
      have HMV := Lib.hid hm
      clear hK hm
      simp only [hu]
      clear hu
      go_wp2_with (go_at_call 18; with_reducible refine (bFirst_at bdy sv tv fF qF 2 1 1 0 _ (Lib.hid (tab_own HT.out (g0.trans hO))) (Lib.hid (HBT.out.own (g0.trans hO))) (Lib.hid (HS.out.own (g0.trans hO))) HMV CF).mono ?_; rintro r w2 ⟨rfl, hg⟩)
      exact ⟨rfl, rfl, rfl, hg⟩
    case s6_7 =>
      refine RegD.stepF_det (by decide) (by simp) (fun u w1 hK => ?_)
      clear hK
      go_wp2
      exact ⟨rfl, rfl, rfl, PairW.Own.refl _⟩
    case s6_8 =>
      refine RegD.stepF_det (by decide) (by simp) (fun u w1 hK => ?_)
      clear hK
      go_wp2
      exact ⟨rfl, rfl, rfl, PairW.Own.refl _⟩
    case s6_9 =>
      refine RegD.stepF_det (by decide) (by simp) (fun u w1 hK => ?_)
      clear hK
      go_wp2
      exact ⟨rfl, rfl, rfl, PairW.Own.refl _⟩
    case s6_10 =>
      refine RegD.stepF_det (by decide) (by simp) (fun u w1 hK => ?_)
      clear hK
      go_wp2
      exact ⟨rfl, rfl, rfl, PairW.Own.refl _⟩
    case s6_11 =>
      refine RegD.stepF_det (by decide) (by simp) (fun u w1 hK => ?_)
      clear hK
      go_wp2
      exact ⟨rfl, rfl, rfl, PairW.Own.refl _⟩
  intro u w10 hX hF
  clear hF hX0
  have hX1 : X10 w10 A w10 := ⟨PairW.Own.refl _, hX.2.1⟩
  replace g0 := g0.trans hX.1
  clear hX
  generalize u 58 = u58
  generalize u 59 = u59
  generalize u 60 = u60
  go_upto_region 10 with (fail)
  refine RegD.region_dutyF [65, 66, 67, 68, 69, 64, 70, 71, 6, 7] [(2, 67), (3, 68)] [67, 68] (RegI.upd (RegI.upd (RegI.upd (RegI.upd (RegI.upd (RegI.upd (RegI.upd (RegI.upd (fun _ => undef) 65 (.agg (cz 15 bdy))) 66 (.agg #[.int .i64 0, .int .i64 0, .int .i64 0, .int .i64 0, .int .i64 0, .int .i64 (-64), .int .i64 0, .int .i64 0, .int .i64 (-64), .int .i64 0, .int .i64 0, .int .i64 64, .int .i64 0, .int .i64 0, .int .i64 (-64), .int .i64 0, .int .i64 0, .int .i64 (-64), .int .i64 0, .int .i64 0, .int .i64 64, .int .i64 0])) 69 (.tuple #[.int .i64 0, .int .i64 2])) 64 (.tuple #[.int .i64 0, .int .i64 2])) 70 (.int .i64 0)) 71 (.int .i64 2)) 6 (.int .i64 0)) 7 (.int .i64 2)) (X10 w10 A) (F10) (by kernel_rfl) (by kernel_rfl) (by decide) (by intro d hd; simp at hd; simp; omega) (stg10) (hX1) ?_
  simp only [RegD.FF, RegI.FX, RegI.upd, List.foldl_cons, List.foldl_nil, List.mem_cons, List.not_mem_nil, if_true, if_false, Nat.reduceEqDiff, or_false, or_true]
  simp only [List.setIfInBounds_toArray, List.set_cons_succ, List.set_cons_zero]
  refine And.intro ?hs7 ?he7
  case hs7 =>
    refine And.intro ?s7_0 (And.intro ?s7_1 (And.intro ?s7_2 (And.intro ?s7_3 (And.intro ?s7_4 (And.intro ?s7_5 (And.intro ?s7_6 (And.intro ?s7_7 (And.intro ?s7_8 (And.intro ?s7_9 (trivial))))))))))
    case s7_0 =>
      refine RegD.stepF_det (by decide) (by simp) (fun u w1 hK => ?_)
      clear hK
      go_wp2_with (go_at_call 27; with_reducible refine (body_at _).mono ?_; rintro r w2 ⟨rfl, hg⟩)
      exact ⟨rfl, rfl, rfl, hg⟩
    case s7_1 =>
      refine RegD.stepF_det (by decide) (by simp) (fun u w1 hK => ?_)
      have HB9 := Lib.hid hK.1.2
      clear hK
      go_wp2_with ((with_reducible show wpList _ _ _ (⟨_, .load 31 (.tmp 1), _, _, _, none⟩ :: _) _ _); refine wpList_load_row rfl 31 (.tmp 1) rfl A rfl 31 _ (0, 0) _ HB9.out.raw Tryd.underlying31 rfl infoP ?_)
      exact ⟨rfl, rfl, rfl, PairW.Own.refl _⟩
    case s7_2 =>
      refine RegD.stepF_fact 67 (by decide) (by decide) rfl (fun u w1 hK => ?_)
      clear hK
      go_wp2
      exact ⟨rfl, rfl, (PairW.Own.refl w1).alloc _, f10_67.mpr ⟨w1.heap.size, rfl, Blk.new w1 _ _⟩⟩
    case s7_3 =>
      refine RegD.stepF_fact 68 (by decide) (by decide) rfl (fun u w1 hK => ?_)
      have h1 : Srow #[.int .i64 0, .int .i64 0, .int .i64 0, .int .i64 0, .int .i64 0, .int .i64 (-64), .int .i64 0, .int .i64 0, .int .i64 (-64), .int .i64 0, .int .i64 0, .int .i64 64, .int .i64 0, .int .i64 0, .int .i64 (-64), .int .i64 0, .int .i64 0, .int .i64 (-64), .int .i64 0, .int .i64 0, .int .i64 64, .int .i64 0] 1 31 (u 67) w1 := hK.2 (2, 67) (by decide) (by kernel_rfl)
      obtain ⟨E, hu, hb⟩ := h1
      have HMV := Lib.hid (mov10 (c := 0) (A := none) hb)
      clear hK hb
      simp only [hu]
      clear hu
      go_wp2
      exact ⟨rfl, rfl, PairW.Own.refl _, f10_68.mpr ⟨_, _, rfl, HMV.out⟩⟩
    case s7_4 =>
      refine RegD.stepF_det (by decide) (by simp) (fun u w1 hK => ?_)
      have h0 : Smov 1 0 (u 68) w1 := hK.2 (3, 68) (by decide) (by kernel_rfl)
      have hO := hK.1.1
      obtain ⟨sv, tv, hu, hm⟩ := h0
      have HMV := Lib.hid hm
      clear hK hm
      simp only [hu]
      clear hu
      go_wp2_with (go_at_call 18; with_reducible refine (bFirst_at bdy sv tv fF qF 1 0 0 2 _ (Lib.hid (tab_own HT.out (g0.trans hO))) (Lib.hid (HBT.out.own (g0.trans hO))) (Lib.hid (HS.out.own (g0.trans hO))) HMV CF2).mono ?_; rintro r w2 ⟨rfl, hg⟩)
      exact ⟨rfl, rfl, rfl, hg⟩
    case s7_5 =>
      refine RegD.stepF_det (by decide) (by simp) (fun u w1 hK => ?_)
      clear hK
      go_wp2
      exact ⟨rfl, rfl, rfl, PairW.Own.refl _⟩
    case s7_6 =>
      refine RegD.stepF_det (by decide) (by simp) (fun u w1 hK => ?_)
      clear hK
      go_wp2
      exact ⟨rfl, rfl, rfl, PairW.Own.refl _⟩
    case s7_7 =>
      refine RegD.stepF_det (by decide) (by simp) (fun u w1 hK => ?_)
      clear hK
      go_wp2
      exact ⟨rfl, rfl, rfl, PairW.Own.refl _⟩
    case s7_8 =>
      refine RegD.stepF_det (by decide) (by simp) (fun u w1 hK => ?_)
      clear hK
      go_wp2
      exact ⟨rfl, rfl, rfl, PairW.Own.refl _⟩
    case s7_9 =>
      refine RegD.stepF_det (by decide) (by simp) (fun u w1 hK => ?_)
      clear hK
      go_wp2
      exact ⟨rfl, rfl, rfl, PairW.Own.refl _⟩
  intro u2 w11 hX hF
  clear hF hX1
  replace g0 := g0.trans hX.1
  clear hX
  go_wp2
  go_ret
  exact ⟨rfl, g0⟩
end Go.Proofs.YtighpjhipgobiaaDoor.BalL
