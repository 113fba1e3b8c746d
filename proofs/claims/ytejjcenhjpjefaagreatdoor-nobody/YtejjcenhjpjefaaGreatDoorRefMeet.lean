import Derived.Test.YtejjcenhjpjefaaGreatDoorMeet
import Derived.Deep.QuietTactic
import Derived.BigQuiet
import Derived.Deep.RegionHeld3
import Derived.Deep.RegionWith
import Derived.Deep.DeepCutAuto
set_option linter.all false
set_option maxRecDepth 1000000
set_option maxHeartbeats 64000000
namespace Go.Proofs.YtejjcenhjpjefaaGreatDoor
open Go.RowKit
theorem Two.past {w:World} {b k o:Nat} {u v:Int} {s:Value} (h:Two w b u v) (hk:¬b=k):Two (w.setCell ⟨k,o,none⟩ s) b u v:=by
 obtain ⟨⟨h0,h1⟩,⟨f0,f1⟩,hz⟩:=h;have hk':¬k=b:=fun e=>hk e.symm;refine ⟨⟨?_,?_⟩,⟨?_,?_⟩,?_⟩
 ·simp [go_sem,h0]
 ·simp [go_sem,h1]
 ·simpa [go_sem] using f0
 ·simpa [go_sem] using f1
 ·simpa using hz

end Go.Proofs.YtejjcenhjpjefaaGreatDoor
