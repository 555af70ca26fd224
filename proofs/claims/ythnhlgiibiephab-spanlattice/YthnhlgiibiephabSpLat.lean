/- SpanLattice: the law's walk. Conditions: none but the numbers' own ranges. -/
import Derived.Test.YthnhlgiibiephabSpLat1
import Derived.Test.YthnhlgiibiephabSpLat2
import Derived.Test.YthnhlgiibiephabSpLat3
namespace Go.Proofs.Ythnhlgiibiephab
open Go.RowKit
set_option linter.unusedVariables false
set_option maxRecDepth 100000

theorem lat_law (a b c d e f n : Int) (w : World) (h1 : B64 a) (h2 : B64 b) (h3 : B64 c) (h4 : B64 d) (h5 : B64 e) (h6 : B64 f) (h7 : B64 n) : Calls Try.prog 7 #[(.agg #[.int .i64 a, .int .i64 b]), (.agg #[.int .i64 c, .int .i64 d]), (.agg #[.int .i64 e, .int .i64 f]), .int .i64 n] w fun e w' => e = .returned (.bool true) ∧ Below w.heap.size w w' := by
  cases p1 : inB a b e f <;> cases q1 : inB e f a b
  · exact lat_f_f a b c d e f n w ⟨h1, h2, h3, h4, h5, h6⟩ p1 q1
  · cases q2 : inB e f c d
    · exact lat_f_tf a b c d e f n w ⟨h1, h2, h3, h4, h5, h6⟩ p1 q1 q2
    · exact lat_f_tt a b c d e f n w ⟨h1, h2, h3, h4, h5, h6⟩ p1 q1 q2
  · cases p2 : inB c d e f
    · exact lat_tf_f a b c d e f n w ⟨h1, h2, h3, h4, h5, h6⟩ p1 p2 q1
    · exact lat_tt_f a b c d e f n w ⟨h1, h2, h3, h4, h5, h6⟩ p1 p2 q1
  · cases p2 : inB c d e f <;> cases q2 : inB e f c d
    · exact lat_tf_tf a b c d e f n w ⟨h1, h2, h3, h4, h5, h6⟩ p1 p2 q1 q2
    · exact lat_tf_tt a b c d e f n w ⟨h1, h2, h3, h4, h5, h6⟩ p1 p2 q1 q2
    · exact lat_tt_tf a b c d e f n w ⟨h1, h2, h3, h4, h5, h6⟩ p1 p2 q1 q2
    · exact lat_tt_tt a b c d e f n w ⟨h1, h2, h3, h4, h5, h6⟩ p1 p2 q1 q2
end Go.Proofs.Ythnhlgiibiephab
