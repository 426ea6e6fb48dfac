/-
  The program's functions keep what the laws of package ident ask of them. Condition: none.
-/
import Derived.Test.YtifiljmiehddfaaDoorIdentPG
import Derived.Test.YtifiljmiehddfaaDoorIdentPH
namespace Go.Proofs.YtifiljmiehddfaaDoor.NamW
open Go.ChangeShapes Go.WideShapes Go.ChangeAt Go.RowKit
open PairW NamP StrW
theorem identC : IdentC MTab where
  chg := fun h hg hd => h.chg hg hd
  lt := fun h hk => h.lt hk
  short := fun h => h.short
  valid := fun s t w hs H => (pvalid_at s t w hs H).mono fun _ _ h => ⟨h.1, by rw [← h.2]; exact Own.refl w⟩
  less := fun a b t w ha hb H => pless_at a b t w ha hb H
  new := fun l sv f w HP HS hl H => pnew_at l sv f w HP HS hl H
  index := fun l s g F i t w hs HT H => pindex_at l s g F i t w hs HT H
  name := fun l i g F s f w HT H => pname_at l i g F s f w HT H
  sorted := fun l g n F w HT hn hk => psorted_at l g n F w HT hn hk
theorem identA : IdentA MTab where
  bad := fun l s g F f w hs HT H hf => padd_bad l s g F f w hs HT H hf
  ok := fun l s g F w hs HT H => padd_ok l s g F w hs HT H
end Go.Proofs.YtifiljmiehddfaaDoor.NamW
