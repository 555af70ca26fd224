/- The law's own first call, of a law that made an Acc. Conditions: the library's own variables as they are laid. -/
import Derived.Test.YtapdnahjcadpeaaDoorAlive
import Derived.Test.YtapdnahjcadpeaaDoorLiveB
namespace Go.Proofs.YtapdnahjcadpeaaDoor
open Go.RowKit
set_option linter.unusedVariables false
set_option maxRecDepth 100000
set_option maxHeartbeats 400000 in
theorem neg_any (p : Option Addr) (o : Bool) (x : Int) (w : World) (h : AccIs (w.alloc (.cells #[.int .i64 0, .int .i64 (-1 - x), .int .i64 1] 3)) p o) (x1 : -9223372036854775808 ≤ x) (x2 : x ≤ 9223372036854775807) :
    Calls Tryd.prog 16 #[.pointer p, .int .i64 x] w (Tells (w.alloc (.cells #[.int .i64 0, .int .i64 (-1 - x), .int .i64 1] 3)) p o (-x)) := by
  have HA : Hid (Calls Tryd.prog 10 #[.pointer p, .int .i64 0, .int .i64 x] w (Tells (w.alloc (.cells #[.int .i64 0, .int .i64 (-1 - x), .int .i64 1] 3)) p o (-x))) := by
    have := sub_any p o 0 x w h (by omega) (by omega) x1 x2
    rw [Int.zero_sub] at this; exact this
  clear h
  go_enter Tryd.func16, Tryd.ntmps16
  go_wp2_with fail
  refine Calls.mono HA.out ?_
  rintro e w' ⟨he, hw⟩
  subst he hw
  go_wp2
  go_ret
  exact ⟨rfl, rfl⟩
theorem neg_live {w W : World} {b : Nat} {o : Bool} (h : Live w b W o) {x : Int} (x1 : -9223372036854775808 ≤ x) (x2 : x ≤ 9223372036854775807) :
    Calls Tryd.prog 16 #[.pointer (some ⟨b, 0, none⟩), .int .i64 x] W (Says w b o W (-x)) :=
  Calls.mono (neg_any _ o x W (h.alloc _).acc x1 x2) fun _ _ t => says_of (h.alloc _) (Kept.alloc b W _) t
theorem alive_live {w W : World} {b : Nat} {o : Bool} (h : Live w b W o) (hm : MaxLenIs w) (ht : PowsAre w) :
    Calls Tryd.prog 7 #[] W fun e W' => e = .returned (.bool true) ∧ Live w b W' o ∧ Below W.heap.size W W' :=
  Calls.mono (alive_any W (hm.stays h.below (Nat.le_refl _)) (ht.stays h.below)) fun _ _ t => ⟨t.1, h.stays t.2, t.2⟩
end Go.Proofs.YtapdnahjcadpeaaDoor
