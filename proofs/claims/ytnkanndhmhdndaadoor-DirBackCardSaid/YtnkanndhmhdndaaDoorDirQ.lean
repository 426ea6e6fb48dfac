/-
  The tables of words as the rows list them, and a pair's opening. Condition: none.
-/
import Derived.Test.YtnkanndhmhdndaaDoorFrame
import Derived.Test.YtnkanndhmhdndaaDoorDirPB
import Derived.Lib.LaidTab
import Derived.Deep.SlicePairs
namespace Go.Proofs.YtnkanndhmhdndaaDoor.DirW
open Go.ChangeShapes Go.WideShapes Go.ChangeAt Go.RowKit Go.Joins
open PairW StrW DirP FrmW
/-- A row of words as a row lists it. -/
def wordsData {H : Type} (l : Ss) : DataW H := .agg (l.map fun b => .lit (.string b.data.toList))
theorem bytes_of {a b : ByteArray} (h : a.data.toList = b.data.toList) : a = b := by
  obtain ⟨⟨a⟩⟩ := a
  obtain ⟨⟨b⟩⟩ := b
  exact congrArg (fun l : List UInt8 => (⟨⟨l⟩⟩ : ByteArray)) h
/-- An array of strings that reads as the words holds the words, cell for cell. -/
theorem cells_of_words {H : Type} {enc : TypeId × Value → H} {w : World} {base : Nat} {sp : Nat → Bool} {held : Bool} {fuel : Nat} {t : TypeId} {n : Nat} {cs : List Value} {l : Ss} {p : List MemPlace}
    (ht : Tryd.prog.underlying t = some (.array n 9)) (hct : Tryd.prog.cellsOf t = n)
    (h : DataW.trod enc Tryd.prog w base sp held fuel t cs = some (wordsData l, p)) : ∀ i, i < l.length → cs[i]? = some (.string (atS l i)) := by
  cases fuel with
  | zero => simp [DataW.trod] at h
  | succ fuel =>
    simp only [DataW.trod, ht, cells_string, hct, Nat.mul_one] at h
    split at h
    · obtain ⟨xs, hm, hx⟩ := Option.map_eq_some_iff.1 h
      have hxs : xs.map (·.1) = l.map fun b => (DataW.lit (.string b.data.toList) : DataW H) := by
        have := congrArg Prod.fst hx
        simpa [wordsData] using this
      have hxl : xs.length = n := by simpa using Lib.mapM_length hm
      have hzl : l.length = n := by
        have := congrArg List.length hxs
        simp at this
        omega
      intro i hi
      obtain ⟨b, hb, hf⟩ := Lib.mapM_at hm i i (List.getElem?_range (by omega))
      obtain ⟨s, hc, _, hs⟩ := trod_s hf
      have h1 : cs[i]? = some (.string s) := by
        have := congrArg (·[0]?) hc
        simpa [List.getElem?_take, List.getElem?_drop] using this
      have h2 : (xs.map (·.1))[i]? = some (DataW.lit (.string s.data.toList) : DataW H) := by rw [List.getElem?_map, hb, ← hs]; rfl
      rw [hxs, List.getElem?_map, List.getElem?_eq_getElem hi] at h2
      simp only [Option.map_some, Option.some.injEq, DataW.lit.injEq, Lit.string.injEq] at h2
      rw [h1, atS_get hi, bytes_of h2]
    · cases h
theorem gDir : Tryd.prog.globalNamed "dancestudio/dir.directionWords" = some 0 := by kernel_rfl
theorem gLev : Tryd.prog.globalNamed "dancestudio/dir.levelWords" = some 1 := by kernel_rfl
theorem gDirType : (Tryd.prog.globals[0]?).map (·.type) = some 41 := by kernel_rfl
theorem gLevType : (Tryd.prog.globals[1]?).map (·.type) = some 42 := by kernel_rfl
theorem cells9 : Tryd.prog.cellsOf 41 = 9 := by kernel_rfl
theorem cells3 : Tryd.prog.cellsOf 42 = 3 := by kernel_rfl
theorem laid_dir : (Rows.laid_dancestudio_dir_directionWords : DataW Unit) = wordsData wds := by kernel_rfl
theorem laid_lev : (Rows.laid_dancestudio_dir_levelWords : DataW Unit) = wordsData lvs := by kernel_rfl
theorem wds_met {W : World} (h : laidMetH Tryd.prog [("dancestudio/dir.directionWords", Rows.laid_dancestudio_dir_directionWords), ("dancestudio/dir.levelWords", Rows.laid_dancestudio_dir_levelWords)] W) : Wds W := by
  have h' : laidMet Tryd.prog [("dancestudio/dir.directionWords", Rows.laid_dancestudio_dir_directionWords), ("dancestudio/dir.levelWords", Rows.laid_dancestudio_dir_levelWords)] W := h
  obtain ⟨ps, ⟨g1, t1, c1, fu1, p1, q1, hg1, ht1, hv1, hd1, ⟨g2, t2, c2, fu2, p2, q2, hg2, ht2, hv2, hd2, _, _⟩, _⟩, _⟩ := h'
  obtain rfl := Option.some.inj (gDir.symm.trans hg1)
  obtain rfl := Option.some.inj (gDirType.symm.trans ht1)
  obtain rfl := Option.some.inj (gLev.symm.trans hg2)
  obtain rfl := Option.some.inj (gLevType.symm.trans ht2)
  rw [laid_dir] at hd1
  rw [laid_lev] at hd2
  refine ⟨fun k hk => ?_, fun k hk => ?_⟩
  · have := World.var?_cell gDir hv1 k
    rw [this, ← Array.getElem?_toList]
    exact cells_of_words Tryd.underlying41 cells9 hd1 k hk
  · have := World.var?_cell gLev hv2 k
    rw [this, ← Array.getElem?_toList]
    exact cells_of_words Tryd.underlying42 cells3 hd2 k hk
section
variable {H : Type} {enc : TypeId × Value → H} {W : World} {r : Reach} {b0 : Nat} {v : Value} {d : DataW H} {p : List MemPlace}
theorem cells_pair : Tryd.prog.cellsOf 38 = 2 := by kernel_rfl
set_option maxRecDepth 100000 in
theorem open_pair (hv : Value.okWide Tryd.prog W r b0 38 v) (h : DataW.Trod enc Tryd.prog W 0 (fun _ => true) true 38 v d p) : ∃ a b : Int, v = .agg #[.int .i64 a, .int .i64 b] := by
  obtain ⟨cs, rfl, _⟩ := okWide_struct Tryd.underlying38 hv
  obtain ⟨n, h⟩ := h
  obtain ⟨y0, y1, n, _, hl, h0, h1⟩ := trod_struct2 Tryd.underlying38 h
  rw [cells_pair] at hl
  obtain ⟨cs⟩ := cs
  match cs, hl with
  | [c0, c1], _ =>
    simp [Value.cells, cells_int] at h0 h1
    obtain ⟨a, e0, _⟩ := trod_i h0
    obtain ⟨b, e1, _⟩ := trod_i h1
    simp at e0 e1
    subst e0
    subst e1
    exact ⟨a, b, rfl⟩
end
end Go.Proofs.YtnkanndhmhdndaaDoor.DirW
