/-
  Walks of the specification of package wire: PutText. Condition: none.
-/
import Derived.Test.YteaidfocbhadjaaWireA
import Derived.Lib.AppendStr
namespace Go.Proofs.Yteaidfocbhadjaa.WirW
open Go.ChangeShapes Go.WideShapes Go.ChangeAt Go.RowKit
open PairW CelW WirP
theorem own_form {w : World} {base n : Nat} {e : TypeId} {v : Value} {xs : List Value} (h : w.ownsRow base e 1 v n xs) (h0 : 0 < n) : ∃ g cap, v = .slice (some ⟨g, 0, none⟩) n cap := by
  rcases h.2 with ⟨_, h2⟩ | ⟨g, cap, cur, rfl, _⟩
  · omega
  · exact ⟨g, cap, rfl⟩
theorem own_str {w w1 w2 : World} {base n : Nat} {e : TypeId} {v : Value} {xs : List Value} (q : Own w w1) (h : w1.ownsRow base e 1 v n xs) (hg : w1.grownBy w2 v.ownBlock) (hb : w.heap.size ≤ base) : Own w w2 := q.grown hg fun k hk => by
  have := (h.lt k hk).1
  omega
set_option maxRecDepth 100000 in
theorem rputtext_at (b : Bs) (v : Value) (s : ByteArray) (w : World) (HB : Hid (Cel w v (cellsU b))) (hl : b.length + s.size ≤ 140737488355000) :
    Calls Try.prog 21 #[v, .string s] w fun e w' => ∃ v', e = .returned v' ∧ w'.ownsRow w.heap.size 5 1 v' (b ++ encT s.data.toList).length (cellsU (b ++ encT s.data.toList)) ∧ Own w w' := by
  obtain ⟨i0, hi, hz0, hz1, hz2⟩ := info_parts (show (Try.prog.info? 5).map (fun i => (i.zero, i.size, i.bytes)) = some (some (.int .u8 0), 1, 1) by kernel_rfl)
  have HI := Lib.hid hi
  have HZ0 := Lib.hid hz0
  have HZ1 := Lib.hid hz1
  have HZ2 := Lib.hid hz2
  clear hi hz0 hz1 hz2
  have hsl : s.data.toList.length = s.size := Array.length_toList
  have HSL := Lib.hid hsl
  have hin : I64 (s.size : Int) := ⟨by omega, by omega⟩
  have hten : (encI (s.size : Int)).length ≤ 10 := enc_ten hin
  have hone := enc_len (s.size : Int)
  obtain ⟨k, hk⟩ : ∃ k, (b ++ encI (s.size : Int)).length = k := ⟨_, rfl⟩
  have hk1 : b.length + (encI (s.size : Int)).length = k := by rw [← hk, List.length_append]
  have HK := Lib.hid (show 0 < k by omega)
  have HK1 := Lib.hid (show k + s.size ≤ maxLen by unfold maxLen; omega)
  have HK2 := Lib.hid (show k + s.size ≤ 140737488355328 by omega)
  have HKE := Lib.hid hk
  have HEQ := Lib.hid (show b ++ encT s.data.toList = (b ++ encI (s.size : Int)) ++ s.data.toList by unfold encT; rw [hsl, List.append_assoc])
  have hbl : b.length ≤ 140737488355000 := by omega
  have HIN := Lib.hid hin
  have e1 : IntKind.i64.wrap (s.size : Int) = s.size := IntWalk.i64_in _ (by omega)
  clear hk hk1 hone hten hsl hl hin
  go_enter Try.func21, Try.ntmps21
  go_wp2_with (first
    | (go_at_call 16; with_reducible refine (rput_at b v (s.size : Int) _ HB HIN.out hbl).mono ?_; rintro e w1 ⟨v1, rfl, hown1, q1⟩; rw [HKE.out] at hown1)
    | (at_builtin; (refine Go.Lib.wpList_append_own_string _ rfl _ _ 22 9 rfl w.heap.size 5 i0 rfl rfl HI.out HZ0.out HZ1.out HZ2.out v1 k _ rfl hown1 s rfl HK1.out HK2.out q1.size ?_; intro v2 w2 hown2 hgr2 _; have q2 := own_str q1 hown1 hgr2 (Nat.le_refl _))))
  go_ret
  refine ⟨_, rfl, ?_, q2⟩
  rw [HEQ.out, List.length_append, HKE.out, HSL.out, cellsU_app]
  exact hown2
end Go.Proofs.Yteaidfocbhadjaa.WirW
