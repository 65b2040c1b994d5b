/- Package medium as it landed: all of its contracts (MediumM). -/
import Derived.Test.YtoonaendakjecaaOg
import Derived.Test.YtoonaendakjecaaOi
import Derived.Test.YtoonaendakjecaaOj
namespace Go.Proofs.Ytoonaendakjecaa
open Go.ChangeShapes Go.WideShapes Go.ChangeAt Go.RowKit Go.Shelf
set_option linter.unusedVariables false
set_option maxRecDepth 100000

theorem mediumM : MediumM MedR MedP where
  inside := fun h => medR_inside h
  keep := fun h hk => medR_keep h hk
  pinside := fun h => medP_inside h
  pkeep := fun h hk => medP_keep h hk
  newPower := newPower_any
  on := fun pp F l u w hp => (powOn_any pp F l u w hp).mono fun e w' h => ⟨h.1, h.2 ▸ Below.refl _ _⟩
  used := fun pp F l u w hp _ => powUsed_any pp F l u w hp
  set := powSet_any
  new := newMed_any
  newBad := newMed_bad
  write := write_any
  read := read_any
  flush := flush_any
  crash := crash_any
  fail := fun tb F S pp w h _ _ => medFail_any tb F S pp w h
  back := fun tb F S pp w h _ _ => medBack_any tb F S pp w h
  lose := lose_any
  spoil := spoil_med
  snap := snap_any
  cached := cached_any
  up := medUp_any
  len := medLen_any
  copy := copy_any
  writeNil := fun i w _ => writeNil_any i w
  readNil := fun i w _ => readNil_any i w
  flushNil := flushNil_any
  crashNil := crashNil_any
  failNil := failNil_any
  backNil := backNil_any
  loseNil := fun i w _ => loseNil_any i w
  spoilNil := fun i w _ => spoilNil_any i w
  snapNil := snapNil_any
  cachedNil := cachedNil_any
  upNil := upNil_any
  lenNil := lenNil_any
  copyNil := copyNil_any
end Go.Proofs.Ytoonaendakjecaa
