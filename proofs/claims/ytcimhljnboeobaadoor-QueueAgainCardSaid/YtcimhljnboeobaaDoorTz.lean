/- math/bits.TrailingZeros64, by the shelf. -/
import Derived.Test.YtcimhljnboeobaaDoorMinus
import Derived.Shelf.Spec.TrailingZeros
import Derived.Test.YtcimhljnboeobaaDoorShelf
namespace Go.Proofs.YtcimhljnboeobaaDoor
open Go.RowKit Go.Maps Go.Shelf

/-- The library's table in its variable. -/
def Tabs (w : World) : Prop := TabAt 0 Lib.deBruijn64tab w

theorem Tabs.touch {w w' : World} {Q : Nat → Prop} (h : Tabs w) (hlt : 0 < w.heap.size) (ht : Touch w w' Q) (hn : ¬ Q 0) : Tabs w' :=
  fun j hj => (World.cell?_of_block (w := w) (ht.block _ hlt hn)).trans (h j hj)

theorem tz {w : World} (h : Tabs w) {x : Nat} (hx : x < 18446744073709551616) : Calls Tryd.prog 20 #[.int .u64 x] w fun e w' => e = .returned (.int .i64 (Lib.ctz 64 x)) ∧ w' = w :=
  Any7.bits_TrailingZeros64 Tryd.lays29 x hx w (fun _ => h)
end Go.Proofs.YtcimhljnboeobaaDoor
