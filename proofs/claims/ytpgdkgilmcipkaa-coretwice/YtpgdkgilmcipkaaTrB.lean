/- The contract of tree's sizeOf and Whole. Conditions: at most 2^40 nodes. -/
import Derived.Test.YtpgdkgilmcipkaaTrA
namespace Go.Proofs.Ytpgdkgilmcipkaa
open Go.RowKit
set_option linter.unusedVariables false
set_option maxRecDepth 100000

theorem scan_go (q : Int) (l : List Nd) (k : Nat) (hk : k < l.length) : scanW q (l.drop k) = if wrap64 (q + wrap64 ((l.getD k nd0).n - 1)) ≤ 0 then (1, wrap64 (q + wrap64 ((l.getD k nd0).n - 1)) == 0) else ((scanW (wrap64 (q + wrap64 ((l.getD k nd0).n - 1))) (l.drop (k + 1))).1 + 1, (scanW (wrap64 (q + wrap64 ((l.getD k nd0).n - 1))) (l.drop (k + 1))).2) := by
  have e : l.getD k nd0 = l[k] := by simp [List.getD_eq_getElem?_getD, hk]
  rw [List.drop_eq_getElem_cons hk, e]; rfl
set_option maxHeartbeats 4000000 in
theorem treeSize_any (a : Option Addr) (cap : Nat) (l : List Nd) (W : World) (h : NodeRow W a l) (hl : l.length ≤ 1099511627776) :
    Calls Try.prog 56 #[.slice a l.length cap] W fun e W' => e = .returned (.tuple #[.int .i64 (scanW 1 l).1, .bool (scanW 1 l).2]) ∧ Below W.heap.size W W' := by
  have HR : Hid (NodeRow W a l) := h
  clear h
  go_enter Try.func56, Try.ntmps56
  go_wp2
  go_loopw [4, 9] (fun s i wr => ∃ (k : Nat) (q : Int), k ≤ l.length ∧ i = .int .i64 k ∧ s = .int .i64 q ∧ Below W.heap.size W wr ∧ scanW 1 l = ((scanW q (l.drop k)).1 + k, (scanW q (l.drop k)).2)) (fun _ i _ => l.length - (intOf i).toNat)
  case atStart => exact ⟨0, 1, Nat.zero_le _, rfl, rfl, Below.refl _ _, rfl⟩
  case round =>
    obtain ⟨k, q, hk, rfl, rfl, hb, he⟩ := hrel
    have HB : Hid (Below W.heap.size W wr) := hb
    have HE : Hid (scanW 1 l = ((scanW q (l.drop k)).1 + k, (scanW q (l.drop k)).2)) := he
    clear hb he
    by_cases hlt : k < l.length
    · obtain ⟨b, off, rfl, n0, n1, n2, n3, ⟨ta, tc, n4, ht⟩, n5⟩ := (HR.out.below HB.out) k hlt
      have HG : Hid _ := scan_go q l k hlt
      generalize l.getD k nd0 = x at *
      obtain ⟨op, xn, fr, to, ts, num⟩ := x
      simp only at n0 n1 n2 n3 n4 n5 HG
      have HB2 : Hid (Below W.heap.size W (wr.alloc (.cells #[.int .i64 op, .int .i64 xn, .int .i64 fr, .int .i64 to, .slice ta ts.length tc, .int .i64 num] 37))) := HB.out.alloc HB.out.size _
      clear ht
      by_cases hz : wrap64 (q + wrap64 (xn - 1)) ≤ 0
      · have HZ : Hid (scanW 1 l = (k + 1, wrap64 (q + wrap64 (xn - 1)) == 0)) := by
          have := HG.out
          rw [if_pos hz] at this
          show _ = _
          rw [HE.out, this, Nat.add_comm]
        have hq : wrap64 ((k : Int) + 1) = ((k + 1 : Nat) : Int) := by unfold wrap64; omega
        clear HG HE
        go_wp2
        go_ret2
        exact ⟨by rw [HZ.out]; rfl, HB2.out⟩
      · have HZ : Hid (scanW 1 l = ((scanW (wrap64 (q + wrap64 (xn - 1))) (l.drop (k + 1))).1 + (k + 1), (scanW (wrap64 (q + wrap64 (xn - 1))) (l.drop (k + 1))).2)) := by
          have := HG.out
          rw [if_neg hz] at this
          show _ = _
          rw [HE.out, this]
          simp only [Prod.mk.injEq, and_true]; omega
        clear HG HE
        go_wp2
        go_roundw
        case rel => exact ⟨k + 1, _, by omega, by go_num, rfl, HB2.out, HZ.out⟩
        case measure => simp [intOf]; omega
    · have hkk : k = l.length := by omega
      have HZ : Hid (scanW 1 l = (l.length, false)) := by
        show _ = _
        rw [HE.out, hkk, List.drop_length]
        simp [scanW]
      clear hkk HE
      go_wp2
      go_ret2
      exact ⟨by rw [HZ.out]; rfl, HB.out⟩
/-- Whether it is one part with all of its parts. -/
def wholeB (l : List Nd) : Bool := (scanW 1 l).2 && (scanW 1 l).1 == l.length
set_option maxHeartbeats 1000000 in
theorem whole_any (a : Option Addr) (cap : Nat) (l : List Nd) (W : World) (h : NodeRow W a l) (hl : l.length ≤ 1099511627776) :
    Calls Try.prog 32 #[.slice a l.length cap] W fun e W' => e = .returned (.bool (wholeB l)) ∧ Below W.heap.size W W' := by
  have HC := treeSize_any a cap l W h hl
  have HE : Hid (wholeB l = ((scanW 1 l).2 && (scanW 1 l).1 == l.length)) := rfl
  clear h
  generalize (scanW 1 l).1 = s at *
  generalize hq : (scanW 1 l).2 = q at *
  clear hq
  cases q with
  | false =>
    go_enter Try.func32, Try.ntmps32
    go_wp2_with fail
    refine Calls.mono HC ?_
    rintro e W1 ⟨rfl, hb⟩
    go_wp2
    go_ret
    exact ⟨ret_bool HE.out.symm, hb⟩
  | true =>
    have he : ((s : Int) == (l.length : Int)) = (s == l.length) := by
      by_cases e : s = l.length
      · subst e; simp
      · have h1 : (s == l.length) = false := by simpa using e
        have h2 : ((s : Int) == (l.length : Int)) = false := by rw [beq_eq_false_iff_ne]; omega
        rw [h1, h2]
    go_enter Try.func32, Try.ntmps32
    go_wp2_with fail
    refine Calls.mono HC ?_
    rintro e W1 ⟨rfl, hb⟩
    go_wp2
    go_ret
    exact ⟨ret_bool (by rw [HE.out]; simp []), hb⟩
end Go.Proofs.Ytpgdkgilmcipkaa
