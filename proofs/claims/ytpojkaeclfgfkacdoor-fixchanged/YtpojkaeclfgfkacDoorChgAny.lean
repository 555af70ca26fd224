/- FixChanged, whatever the input. Conditions: the library's own variables as they are laid. -/
import Derived.Test.YtpojkaeclfgfkacDoorChg
namespace Go.Proofs.YtpojkaeclfgfkacDoor
open Go.RowKit
set_option linter.unusedVariables false
set_option maxRecDepth 100000

theorem tmod_bd (a : Int) (n : Nat) (hn : 1 ≤ n) : -(n : Int) < a.tmod n ∧ a.tmod n < n := by
  by_cases h : 0 ≤ a
  · rw [Int.tmod_eq_emod_of_nonneg h]
    have h1 := Int.emod_nonneg a (show (n : Int) ≠ 0 by omega)
    have h2 := Int.emod_lt_of_pos a (show (0 : Int) < n by omega)
    omega
  · have : a = -(-a) := by omega
    rw [this, Int.neg_tmod, Int.tmod_eq_emod_of_nonneg (show 0 ≤ -a by omega)]
    have h1 := Int.emod_nonneg (-a) (show (n : Int) ≠ 0 by omega)
    have h2 := Int.emod_lt_of_pos (-a) (show (0 : Int) < n by omega)
    omega
theorem chg_any (s : ByteArray) (at' by' : Int) (w : World) (hm : MaxLenIs w) (ht : PowsAre w) (hs : s.size ≤ 140737488351232) (a1 : -9223372036854775808 ≤ at') (a2 : at' ≤ 9223372036854775807) (b1 : -9223372036854775808 ≤ by') (b2 : by' ≤ 9223372036854775807) :
    Calls Tryd.prog 3 #[.string s, .int .i64 at', .int .i64 by'] w fun e w' => e = .returned (.bool true) ∧ Below w.heap.size w w' := by
  by_cases h1 : s.size = 0
  · exact chg_out s at' by' w hm ht hs (.inl h1)
  · by_cases h2 : 3000 < s.size
    · exact chg_out s at' by' w hm ht hs (.inr (.inl h2))
    · by_cases h3 : by' % 256 = 0
      · exact chg_out s at' by' w hm ht hs (.inr (.inr ⟨by omega, by omega, h3⟩))
      · have hb := tmod_bd at' s.size (by omega)
        have hd : by' % 256 = ((UInt8.ofNat (by' % 256).toNat).toNat : Int) := by
          rw [UInt8.toNat_ofNat_of_lt' (show (by' % 256).toNat < 256 by omega)]; omega
        have hd0 : 1 ≤ (UInt8.ofNat (by' % 256).toNat).toNat := by omega
        by_cases hk : at'.tmod s.size < 0
        · exact chg_in s at' _ by' (at'.tmod s.size + s.size).toNat w hm ht (by omega) (by omega) hd hd0 (by omega) (.inr ⟨hk, by omega⟩) a1 a2
        · exact chg_in s at' _ by' (at'.tmod s.size).toNat w hm ht (by omega) (by omega) hd hd0 (by omega) (.inl (by omega)) a1 a2
end Go.Proofs.YtpojkaeclfgfkacDoor
