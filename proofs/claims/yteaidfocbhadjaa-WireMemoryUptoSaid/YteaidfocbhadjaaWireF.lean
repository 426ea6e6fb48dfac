/-
  Walks of the specification of package wire: TakeText. Condition: none.
-/
import Derived.Test.YteaidfocbhadjaaWireD
import Derived.Laws.BytesArg
namespace Go.Proofs.Yteaidfocbhadjaa.WirW
open Go.ChangeShapes Go.WideShapes Go.ChangeAt Go.RowKit
open PairW CelW WirP
/-- A text of a slice's bytes. -/
def strB (l : Bs) : ByteArray := ⟨l.toArray⟩
theorem strB_data (l : Bs) : (strB l).data.toList = l := rfl
theorem strB_bytes (s : ByteArray) : strB s.data.toList = s := ByteArray.ext (by simp [strB])
theorem conv_at {P : Program} {w : World} {g off len cap : Nat} {l : Bs} (hl : l.length = len) (hc : ∀ i (hi : i < l.length), w.cell? ⟨g, off + i, none⟩ = some (.int .u8 (l[i].toNat : Int))) {src e dst : TypeId} (hs : P.underlying src = some (.slice e)) (he : P.underlying e = some (.int .u8)) (hd : P.underlying dst = some .string) :
    (convert src dst (.slice (some ⟨g, off, none⟩) len cap)).run P w = .ok (.string (strB l)) w := by
  have h := run_convert_bytes_arg (P := P) w src e hs he g off len cap (l.map fun c => (c.toNat : Int)) (by rw [List.length_map, hl]) (fun i hi => by
    have hi' : i < l.length := by omega
    rw [hc i hi', List.getD_eq_getElem?_getD, List.getElem?_map, List.getElem?_eq_getElem hi']
    rfl) dst hd
  rw [h]
  congr 2
  apply ByteArray.ext
  apply Array.toList_inj.1
  rw [strOfNums_data, List.map_map, strB_data]
  conv => rhs; rw [← List.map_id l]
  apply List.map_congr_left
  intro x _
  simp
set_option maxRecDepth 100000 in
theorem rtaketext_at (b V : Bs) (v : Value) (most f : Int) (m : Nat) (w : World) (HB : Hid (Cel w v (cellsU b))) (H : Hid (textE b most = f ∧ textV b most = V ∧ textK b most = m)) :
    Calls Try.prog 19 #[v, .int .i64 most] w fun e w' => e = .returned (.tuple #[.string (strB V), .int .i64 (m : Int), .int .i64 f]) ∧ w = w' := by
  obtain ⟨sf, hsf⟩ : ∃ t, sizeE b most = t := ⟨_, rfl⟩
  by_cases c1 : sf = 0
  · subst c1
    obtain ⟨t1, t2, t3⟩ := size_ok hsf
    obtain ⟨o1, o2, o3, o4, o5, o6⟩ := take_once t1
    obtain ⟨n, hn⟩ : ∃ n : Nat, takeV b = (n : Int) := ⟨(takeV b).toNat, by omega⟩
    obtain ⟨k, hk⟩ : ∃ k, takeK b = k := ⟨_, rfl⟩
    have HS := Lib.hid (show SizeIs b most 0 (n : Int) k by unfold SizeIs; rw [hsf, if_pos rfl, if_pos rfl, hn, hk]; exact ⟨rfl, rfl, rfl⟩)
    obtain ⟨A, cap, rfl, h1, h2, h3⟩ := cel_cells HB.out
    obtain ⟨g, off, rfl, hc⟩ := h3 (by omega)
    unfold maxLen at h2
    rw [hk] at o2 o3
    rw [hn] at o6
    obtain ⟨z, hz⟩ : ∃ z, b.length = z := ⟨_, rfl⟩
    have hE : textE b most = if ((z : Int) - k) < n then 13 else 0 := by unfold textE; rw [if_neg (by rw [hsf]; simp), hn, hk, hz]
    have hH := H.out
    unfold textV textK at hH
    rw [hE, hn, hk] at hH
    clear H hE o1 o4 o5 t1 t2 t3 h3
    have i1 : IntKind.i64.wrap ((z : Int) - k) = (z : Int) - k := IntWalk.i64_in _ (by omega)
    by_cases c2 : ((z : Int) - k) < n
    · rw [if_pos c2, if_neg (by decide), if_neg (by decide)] at hH
      obtain ⟨rfl, rfl, rfl⟩ := hH
      rw [hz] at h1 o3 HB ⊢
      clear hc hn hk hsf hz
      go_enter Try.func19, Try.ntmps19
      go_wp2_with (go_at_call 36; with_reducible refine (size_at b _ most _ _ _ _ HB HS).mono ?_; rintro e w1 ⟨rfl, rfl⟩)
      go_ret3
      exact ⟨rfl, rfl⟩
    · rw [if_neg c2, if_pos rfl, if_pos rfl, Int.toNat_natCast] at hH
      obtain ⟨rfl, rfl, rfl⟩ := hH
      have i2 : IntKind.i64.wrap ((k : Int) + n) = (k : Int) + n := IntWalk.i64_in _ (by omega)
      have hlen : ((b.drop k).take n).length = n := by rw [List.length_take, List.length_drop]; omega
      have hcv := fun (cp : Nat) => conv_at (P := Try.prog) (w := w) (g := g) (off := off + k) (cap := cp) (l := (b.drop k).take n) hlen (fun i hi => by
        have hi2 : k + i < b.length := by omega
        rw [Nat.add_assoc, hc (k + i) hi2, List.getElem_take, List.getElem_drop]) (src := 22) (e := 5) (dst := 9) rfl rfl rfl
      obtain ⟨V, hV⟩ : ∃ V, (b.drop k).take n = V := ⟨_, rfl⟩
      rw [hV] at hcv
      have hv0 : k = cap → n = 0 ∧ V = [] := fun e => by
        have h0 : n = 0 := by omega
        exact ⟨h0, by rw [← hV, h0]; rfl⟩
      have hc0 := conv_at (P := Try.prog) (w := w) (g := g) (off := off) (cap := 0) (l := []) (len := 0) rfl (fun i hi => absurd hi (Nat.not_lt_zero _)) (src := 22) (e := 5) (dst := 9) rfl rfl rfl
      rw [hV]
      rw [hz] at h1 o3 HB ⊢
      clear hc hn hk hsf hz hlen hV
      by_cases ce : k = cap
      · obtain ⟨rfl, rfl⟩ := hv0 ce
        subst ce
        have i3 : IntKind.i64.wrap (k : Int) = k := IntWalk.i64_in _ (by omega)
        have hs0 : sliced (some ⟨g, off, none⟩) k k k 1 = .slice (some ⟨g, off, none⟩) 0 0 := by simp [sliced]
        go_enter Try.func19, Try.ntmps19
        go_wp2_with (go_at_call 36; with_reducible refine (size_at b _ most _ _ _ _ HB HS).mono ?_; rintro e w1 ⟨rfl, rfl⟩)
        go_ret3
        exact ⟨rfl, rfl⟩
      · have ce' : ¬ cap = k := fun e => ce e.symm
        clear hv0 hc0 ce
        go_enter Try.func19, Try.ntmps19
        go_wp2_with (go_at_call 36; with_reducible refine (size_at b _ most _ _ _ _ HB HS).mono ?_; rintro e w1 ⟨rfl, rfl⟩)
        go_ret3
        exact ⟨rfl, rfl⟩
  · have hE : textE b most = sf := by unfold textE; rw [if_pos (by rw [hsf]; exact c1), hsf]
    have hH := H.out
    unfold textV textK at hH
    rw [hE, if_neg c1, if_neg c1] at hH
    obtain ⟨rfl, rfl, rfl⟩ := hH
    have HS := Lib.hid (show SizeIs b most sf 0 0 by unfold SizeIs; rw [hsf, if_neg c1, if_neg c1]; exact ⟨rfl, rfl, rfl⟩)
    have d1 : (sf == 0) = false := beq_eq_false_iff_ne.2 c1
    clear H hE hsf
    go_enter Try.func19, Try.ntmps19
    go_wp2_with (go_at_call 36; with_reducible refine (size_at b _ most _ _ _ _ HB HS).mono ?_; rintro e w1 ⟨rfl, rfl⟩)
    go_ret3
    exact ⟨rfl, rfl⟩
end Go.Proofs.Yteaidfocbhadjaa.WirW
