/- The landed device is what the statements ask of it. -/
import Derived.Test.YtcpplfclpigmkaaSsdImT
namespace Go.Proofs.Ytcpplfclpigmkaa
open Go.RowKit
set_option maxRecDepth 20000

theorem ssd_is : SsdIs PwInv DvInv where
  base := dvbase
  make := imake
  makeNo := imakeNo
  write := iwrite
  barrier := ibarrier
  read := fun p F G v st q off n h1 h2 w hD hP _ => iread p F G v st q off n h1 h2 w hD hP
  snap := isnap
  crash := fun p F v st x m c K _ w hD hK => icrash p F v st x m c K w hD hK
  smash := fun p F v st off n c x xs h1 _ bx w hD hx => ismash p F v st off n c x xs h1 bx w hD hx
  back := fun p F v st n c x xs h1 _ bx w hD hx => iback p F v st n c x xs h1 bx w hD hx
  backNo := ibackNo
  trace := itrace
  size := isize
  writeNil := iwriteNil
  barrierNil := ibarrierNil
  readNil := ireadNil
  snapNil := isnapNil
  crashNil := icrashNil
  smashNil := ismashNil
  backNil := ibackNil
  traceNil := itraceNil
  sizeNil := isizeNil
end Go.Proofs.Ytcpplfclpigmkaa
