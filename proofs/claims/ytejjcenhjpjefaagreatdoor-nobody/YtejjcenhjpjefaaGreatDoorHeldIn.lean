import Derived.Test.YtejjcenhjpjefaaGreatDoorCellsSeq
import Derived.Deep.RegionHeld
import Derived.RangeFuncCalls
import Derived.Test.YtejjcenhjpjefaaGreatDoorStand
import Derived.Test.YtejjcenhjpjefaaGreatDoorZlast
set_option linter.all false
set_option maxRecDepth 1000000
set_option maxHeartbeats 64000000
open Go.Proofs.Tryz
open Go.Proofs.Tryz renaming prog->pg
namespace Go.Proofs.YtejjcenhjpjefaaGreatDoor
open Go.RowKit
section
variable {n l:Nat} {P:Program} {ops:Array Oper} {md:Region.Mode} {Q:Exit->Act->World->Prop}
theorem zUc {o:Oper} {a:Act} {w:World} {K K':Act->World->Prop} (hnd:∀c,o.op≠.defer c) (hK:∀a w,K a w->K' a w) (h:o.wp P a w K Q):o.wpIn (Fence.wide.inRound l) n P a w K' Q:=by
 unfold Oper.wp at h;unfold Oper.wpIn;refine ⟨fun _ _=>trivial,?_⟩;rw [Oper.semAt_eq _ _ _ hnd];generalize (execOp a.eval o).run P w=r at *
 cases r with
 |ok x w' =>
  cases x<;>simp only [Oper.upon] at h<;>simp only [Oper.uponIn]
  case value u=>exact hK _ _ h
  case skip=>exact hK _ _ h
  case defer d=>exact hK _ _ h
  case enter f args =>
   refine ⟨(fun h=>by cases h),CallsIn.inRound l (callsIn_wide.2 (h.mono ?_))⟩;rintro e w'' he
   cases e with
   |returned v=>exact hK _ _ he
   |panicked ch=>exact he
   |outgrown=>exact he
  case row r args =>
   refine ⟨(fun h=>by cases h),fun c cs _=>?_⟩;obtain ⟨v,w2,hr,hs⟩:=h c cs;exact ⟨v,w2,hK _ _ hr,stepsIn_wide.2 hs⟩
 |halt x w'=>cases x<;>exact h
theorem zTe {i:Nat} {a:Act} {w:World} {K K':Act->World->Prop} (hno:¬LetsOut Q) (hnd:∀(i:Nat) (o:Oper),ops[i]? = some o->∀c,o.op≠.defer c) (hK:∀a w,K a w->K' a w)
 (h:wpOp P ops Q i K a w):wpOpIn (Fence.wide.inRound l) n P ops Q i K' a w:=by
 unfold wpOp at h;unfold wpOpIn
 split
 ·rename_i ho;simp only [ho] at h;exact hK _ _ h
 ·rename_i o ho;simp only [ho] at h
  split
  ·rename_i hw;simp only [hw,if_true] at h;rcases h with h|h
   ·exact zUc (hnd i o ho) hK h
   ·exact absurd h.2 hno
  ·rename_i hw;simp only [hw] at h;exact ⟨fun _ _=>trivial,hK _ _ h⟩
theorem zK5 (hno:¬LetsOut Q) (hnd:∀(i:Nat) (o:Oper),ops[i]? = some o->∀c,o.op≠.defer c):∀(fuel:Nat) (listed:Array Bool) (a:Act) (w:World),
 wpAny P md ops Q fuel listed a w->wpAnyIn (Fence.wide.inRound l) n P md ops Q fuel listed a w
 |0,_,_,_,h=>h
 |fuel+1,_,_,_,h=>⟨h.1,fun i hi=>zTe hno hnd (fun a' w'=>zK5 hno hnd fuel _ a' w') (h.2 i hi)⟩
end
section
variable {n:Nat} {P:Program} {ops:Array Oper} {md:Region.Mode} {Q:Exit->Act->World->Prop}
end
theorem zC7 {K:Act->World->Prop}:¬LetsOut (zAv K):=fun ⟨_,_,h⟩=>h
theorem zA1 {F:Fence} {m:Nat} {c:Code} {Q:Exit->Act->World->Prop} {a:Act} {w:World} (h:c.wpIn F m pg (zAv (fun a' w'=>Q .normal a' w')) a w):c.wpIn F m pg Q a w:=by
 refine Code.wpIn_mono ?_ h;rintro (_|_|_|_|_) a' w' hO;all_goals first|exact hO.elim|exact hO
theorem zAw (S:World->Prop) (zs:List Nat) {n l:Nat} {P:Program} {id:Nat} {Q:Exit->Act->World->Prop} {a:Act} {w:World} {L:List Oper} (hno:¬LetsOut Q) (hm:P.follows .mixedOrders=true) (hd:zKb L=true)
 (h:zDj P .any L.toArray Q S zs L.toArray.size (Array.replicate L.toArray.size false) a w.drew):(Code.region id L.toArray true).wpIn (Fence.wide.inRound l) n P Q a w:=
 wpIn_region_any hm (zK5 hno (fun i o ho=>zHe hd ho) _ _ _ _ (zGs _ _ _ _ h))
theorem zBi (S:World->Prop) (zs:List Nat) {n:Nat} {P:Program} {id:Nat} {Q:Exit->Act->World->Prop} {a:Act} {w:World} {L:List Oper} (hm:P.follows .mixedOrders=true)
 (h:zDj P .any L.toArray Q S zs L.toArray.size (Array.replicate L.toArray.size false) a w.drew):(Code.region id L.toArray true).wpIn Fence.wide n P Q a w:=
 wpIn_wide.2 (zAe S zs hm h)
end Go.Proofs.YtejjcenhjpjefaaGreatDoor
