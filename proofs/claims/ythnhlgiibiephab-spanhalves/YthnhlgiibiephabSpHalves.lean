/- SpanHalves: the law's walk. Conditions: none but the numbers' own ranges. -/
import Derived.Test.YthnhlgiibiephabSpHalves1
import Derived.Test.YthnhlgiibiephabSpHalves2
import Derived.Test.YthnhlgiibiephabSpHalves3
import Derived.Test.YthnhlgiibiephabSpHalves4
namespace Go.Proofs.Ythnhlgiibiephab
open Go.RowKit
set_option linter.unusedVariables false
set_option maxRecDepth 100000

theorem halves_some (lo hi n by_ al ah bl bh : Int) (w : World) (l : B64 lo) (h : B64 hi) (b1 : B64 n) (b2 : B64 by_) (c1 : B64 al) (c2 : B64 ah) (c3 : B64 bl) (c4 : B64 bh)
    (hh : ∀ w, Calls Try.prog 24 #[(.agg #[.int .i64 lo, .int .i64 hi])] w fun e w' => e = .returned (.tuple #[(.agg #[.int .i64 al, .int .i64 ah]), (.agg #[.int .i64 bl, .int .i64 bh])]) ∧ Below w.heap.size w w') (hE : lo ≤ hi) (hA : al ≤ ah)
    (hB : (bh < bl ∧ al = lo ∧ ah = hi) ∨ (bl ≤ bh ∧ bl - 1 = ah ∧ al = lo ∧ bh = hi)) :
    Calls Try.prog 8 #[(.agg #[.int .i64 lo, .int .i64 hi]), .int .i64 n, .int .i64 by_] w fun e w' => e = .returned (.bool true) ∧ Below w.heap.size w w' := by
  by_cases hby : by_ < 0
  · rcases hB with ⟨e1, e2, e3⟩ | ⟨e1, e2, e3, e4⟩
    · by_cases q : al ≤ n ∧ n ≤ ah
      · exact halves_ftftt lo hi n by_ al ah bl bh w l h b1 b2 c1 c2 c3 c4 hh hE hA q (by omega) (by omega) e1 hby
      · exact halves_ffftt lo hi n by_ al ah bl bh w l h b1 b2 c1 c2 c3 c4 hh hE hA (by omega) (by omega) (by omega) e1 hby
    · by_cases q : al ≤ n ∧ n ≤ ah
      · exact halves_ftfft lo hi n by_ al ah bl bh w l h b1 b2 c1 c2 c3 c4 hh hE hA q (by omega) (by omega) e1 e2 e3 e4 hby
      · by_cases r : bl ≤ n ∧ n ≤ bh
        · exact halves_fftft lo hi n by_ al ah bl bh w l h b1 b2 c1 c2 c3 c4 hh hE hA (by omega) r (by omega) e1 e2 e3 e4 hby
        · exact halves_fffft lo hi n by_ al ah bl bh w l h b1 b2 c1 c2 c3 c4 hh hE hA (by omega) (by omega) (by omega) e1 e2 e3 e4 hby
  · have hby : 0 ≤ by_ := by omega
    rcases hB with ⟨e1, e2, e3⟩ | ⟨e1, e2, e3, e4⟩
    · by_cases q : al ≤ n ∧ n ≤ ah
      · exact halves_ftftf lo hi n by_ al ah bl bh w l h b1 b2 c1 c2 c3 c4 hh hE hA q (by omega) (by omega) e1 hby
      · exact halves_ffftf lo hi n by_ al ah bl bh w l h b1 b2 c1 c2 c3 c4 hh hE hA (by omega) (by omega) (by omega) e1 hby
    · by_cases q : al ≤ n ∧ n ≤ ah
      · exact halves_ftfff lo hi n by_ al ah bl bh w l h b1 b2 c1 c2 c3 c4 hh hE hA q (by omega) (by omega) e1 e2 e3 e4 hby
      · by_cases r : bl ≤ n ∧ n ≤ bh
        · exact halves_fftff lo hi n by_ al ah bl bh w l h b1 b2 c1 c2 c3 c4 hh hE hA (by omega) r (by omega) e1 e2 e3 e4 hby
        · exact halves_fffff lo hi n by_ al ah bl bh w l h b1 b2 c1 c2 c3 c4 hh hE hA (by omega) (by omega) (by omega) e1 e2 e3 e4 hby
theorem shalves_law (lo hi n by_ : Int) (w : World) (l : B64 lo) (h : B64 hi) (b1 : B64 n) (b2 : B64 by_) :
    Calls Try.prog 8 #[(.agg #[.int .i64 lo, .int .i64 hi]), .int .i64 n, .int .i64 by_] w fun e w' => e = .returned (.bool true) ∧ Below w.heap.size w w' := by
  have k0 : B64 0 := ⟨by omega, by omega⟩
  have k1 : B64 (-1) := ⟨by omega, by omega⟩
  by_cases hE : hi < lo
  · exact halves_e lo hi n by_ 0 (-1) 0 (-1) w l h b1 b2 k0 k1 k0 k1 (fun w => shalves_one lo hi 0 (-1) w (by omega) (fun w => stold_none lo hi w hE)) hE (by omega) (by omega) (by omega) (by omega) (by omega)
  · by_cases hO : lo = hi
    · exact halves_some lo hi n by_ lo hi 0 (-1) w l h b1 b2 l h k0 k1 (fun w => shalves_one lo hi lo hi w (by omega) (fun w => stold_some lo hi w (by omega))) (by omega) (by omega) (.inl ⟨by omega, rfl, rfl⟩)
    · have hm : B64 ((lo + hi) / 2) := by unfold B64 at *; omega
      have hm1 : B64 ((lo + hi) / 2 + 1) := by unfold B64 at *; omega
      exact halves_some lo hi n by_ lo ((lo + hi) / 2) ((lo + hi) / 2 + 1) hi w l h b1 b2 l hm hm1 h (fun w => shalves_two lo hi w l.1 l.2 h.1 h.2 (by omega)) (by omega) (by omega) (.inr ⟨by omega, by omega, rfl, rfl⟩)
end Go.Proofs.Ythnhlgiibiephab
