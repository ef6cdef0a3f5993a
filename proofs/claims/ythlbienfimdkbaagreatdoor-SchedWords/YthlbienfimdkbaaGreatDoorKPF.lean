import Derived.Test.YthlbienfimdkbaaGreatDoorKP
namespace Go.Proofs.YthlbienfimdkbaaGreatDoor
open Go Go.RX
set_option maxRecDepth 1000000
set_option maxHeartbeats 4000000
noncomputable section
def gF (g : Nat → SVal) (o : OC) (t : TC) (x : XC) : Nat → SVal := upd (upd (upd (upd (upd (upd (upd (upd (upd (upd (upd (upd g 0 o.o) 7 o.a) 8 o.e) 9 x.b) 10 x.e) 11 t.c) 12 t.e) 13 o.w) 14 t.nm) 15 t.is) 16 x.pl) 17 x.fd
def last1 (s : ByteArray) (hn : isWord words s = false) (ρ : Nat → Int) (aR aS : Addr) (g : Nat → SVal) (H : SHeap) (B C : List CF) (o : OC) (t : TC) (x : XC) : Option SVal :=
  (endR Tryz.prog (glob aR aS) Tryz.f3 (R s hn ρ o.A B C aR aS ((segs cW).drop 15) (gF g o t x) H)).map fun r => nrm r.1
end
end Go.Proofs.YthlbienfimdkbaaGreatDoor
