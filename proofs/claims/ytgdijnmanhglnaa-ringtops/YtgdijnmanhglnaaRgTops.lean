/- RingTops: the law, for every input. Conditions: none but the numbers' own ranges. -/
import Derived.Test.YtgdijnmanhglnaaRgTops0
import Derived.Test.YtgdijnmanhglnaaRgTops1
import Derived.Test.YtgdijnmanhglnaaRgTops2
import Derived.Test.YtgdijnmanhglnaaRgTops3
import Derived.Test.YtgdijnmanhglnaaRgTops4
namespace Go.Proofs.Ytgdijnmanhglnaa
open Go.RowKit
set_option linter.unusedVariables false

theorem tops_any (n : Int) (a : Option Addr) (len cap : Nat) (zs : List Int) (k : Int) (w : World) (hm : -9223372036854775808 ≤ n ∧ n ≤ 9223372036854775807) (h : IsInts w a len cap zs) (hk : -9223372036854775808 ≤ k ∧ k ≤ 9223372036854775807) :
    Calls Try.prog 6 #[.int .i64 n, .slice a len cap, .int .i64 k] w fun e w' => e = .returned (.bool true) ∧ Below w.heap.size w w' := by
  by_cases hc : n < 1 ∨ 200 < n ∨ 300 < len ∨ len = 0 ∨ k < 0 ∨ len < k
  · exact tops_none n k a len cap w hc
  · obtain ⟨r1, r2, r3, r4⟩ := h.row
    have hcap : len ≤ cap := by
      rcases h with ⟨_, rfl, rfl, _⟩ | ⟨_, _, hl, _⟩
      · exact Nat.le_refl _
      · exact hl
    obtain ⟨b', off, rfl, _⟩ := r1 0 (by omega)
    have hlt : ∀ (q1 : k.toNat < cap) , Calls Try.prog 6 #[.int .i64 n, .slice (some ⟨b', off, none⟩) len cap, .int .i64 k] w fun e w' => e = .returned (.bool true) ∧ Below w.heap.size w w' := fun q1 => by
      by_cases hq : n.toNat ≤ (zs.take len).length
      · have := tops_lta n.toNat k.toNat b' off cap (zs.take len) w r1 (by omega) (by omega) (by omega) (by omega) (by omega) (by omega) q1 hq
        rw [r2, show ((n.toNat : Nat) : Int) = n by omega, show ((k.toNat : Nat) : Int) = k by omega] at this; exact this
      · have := tops_ltb n.toNat k.toNat b' off cap (zs.take len) w r1 (by omega) (by omega) (by omega) (by omega) (by omega) (by omega) q1 hq
        rw [r2, show ((n.toNat : Nat) : Int) = n by omega, show ((k.toNat : Nat) : Int) = k by omega] at this; exact this
    by_cases q1 : k.toNat < cap
    · exact hlt q1
    · obtain rfl : cap = len := by omega
      have ek : k = (cap : Int) := by omega
      subst ek
      by_cases hq : n.toNat ≤ (zs.take cap).length
      · have := tops_eqa n.toNat b' off (zs.take cap) w r1 (by omega) (by omega) (by omega) (by omega) hq
        rw [r2, show ((n.toNat : Nat) : Int) = n by omega] at this; exact this
      · have := tops_eqb n.toNat b' off (zs.take cap) w r1 (by omega) (by omega) (by omega) (by omega) hq
        rw [r2, show ((n.toNat : Nat) : Int) = n by omega] at this; exact this
end Go.Proofs.Ytgdijnmanhglnaa
