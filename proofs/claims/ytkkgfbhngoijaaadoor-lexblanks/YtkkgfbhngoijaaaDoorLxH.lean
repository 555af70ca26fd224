/- The contract of lex's Scan. Conditions: a text's own length; the table of signs holds what the program's text lays; the library's own variable MaxLen holds some int. -/
import Derived.Test.YtkkgfbhngoijaaaDoorLxG
namespace Go.Proofs.YtkkgfbhngoijaaaDoor
open Go.RowKit
set_option linter.unusedVariables false
set_option maxRecDepth 100000

/-- What holds at the head of Scan's loop. -/
structure ScanInv (W : World) (r : Nat) (l0 : List UInt8) (v : Value) (wr : World) (acc : List Wd) (p : Nat × Nat) (l : List UInt8) : Prop where
  ow : OW wr W.heap.size v acc
  rd : RdX wr r p l
  pl : PlaceOk p l
  bel : Below W.heap.size W wr
  eq : scanL [] (1, 1) l0 = scanL acc p l
  len : acc.length + l.length ≤ 65536
  ne : ∀ g, v.ownBlock = some g → g ≠ r

/-- The row behind an append, with the box that was appended. -/
theorem grow_words {W W2 : World} {r : Nat} {p : Nat × Nat} {l : List UInt8} {v : Value} {acc : List Wd} (ow : OW W2 W.heap.size v acc) (rd : RdX W2 r p l) (bel : Below W.heap.size W W2) (hlen : acc.length ≤ 65536) (ne : ∀ g, v.ownBlock = some g → g ≠ r) (x : Wd) (hr : r = W.heap.size) :
    ∃ v' w', (Builtin.append_ #[23, 23] 23 #[v, .slice (some ⟨W2.heap.size + 1, 0, none⟩) 1 1]).run Tryd.prog ((W2.alloc (.cells #[.int .i64 (x.kind : Int), .string (strL x.text), .int .i64 x.num, .int .i64 (x.line : Int), .int .i64 (x.col : Int)] 28)).alloc (.cells #[.int .i64 (x.kind : Int), .string (strL x.text), .int .i64 x.num, .int .i64 (x.line : Int), .int .i64 (x.col : Int)] 28)) = .ok v' w' ∧
      OW w' W.heap.size v' (acc ++ [x]) ∧ RdX w' r p l ∧ Below W.heap.size W w' ∧ w'.cell? ⟨W2.heap.size, 0, none⟩ = some (.int .i64 (x.kind : Int)) ∧ (∀ g, v'.ownBlock = some g → g ≠ r) := by
  obtain ⟨X, hX⟩ : ∃ X, (W2.alloc (.cells #[.int .i64 (x.kind : Int), .string (strL x.text), .int .i64 x.num, .int .i64 (x.line : Int), .int .i64 (x.col : Int)] 28)).alloc (.cells #[.int .i64 (x.kind : Int), .string (strL x.text), .int .i64 x.num, .int .i64 (x.line : Int), .int .i64 (x.col : Int)] 28) = X := ⟨_, rfl⟩
  have hm : Mod [] W2 X := by rw [← hX]; exact ((Mod.refl _ _).alloc _).alloc _
  have hg : ∀ j, j < 5 → X.cell? ⟨W2.heap.size + 1, j, none⟩ = (wordC x)[j]? := by
    intro j hj
    rw [← hX]
    have : j = 0 ∨ j = 1 ∨ j = 2 ∨ j = 3 ∨ j = 4 := by omega
    rcases this with rfl | rfl | rfl | rfl | rfl <;> simp [go_sem, wordC]
  have hk : X.cell? ⟨W2.heap.size, 0, none⟩ = some (.int .i64 (x.kind : Int)) := by rw [← hX]; simp [go_sem]
  rw [hX]
  have hlt := World.ownsRow.lt ow
  have hB : W.heap.size ≤ X.heap.size := Nat.le_trans bel.size hm.size
  obtain ⟨v', w', h1, h2, h3⟩ := append_word X W.heap.size v acc (ow.mod hm (by simp)) x (W2.heap.size + 1) hg (by omega) hB
  have m2 : Mod (match v.ownBlock with | some g => [g] | none => []) X w' := ⟨h3.os, h3.tape, h3.output, h3.size, fun k hk hs => h3.block k hk (fun e => by rw [← e] at hs; simp at hs)⟩
  have hrd : RdX w' r p l := (rd.mod hm (by simp)).mod m2 (by
    cases hv : v.ownBlock with
    | none => simp
    | some g => simp; exact fun e => ne g hv e.symm)
  refine ⟨v', w', h1, h2, hrd, ?_, ?_, ?_⟩
  · exact (bel.trans ⟨hm.os, hm.tape, hm.output, hm.size, fun k hk => hm.block k (by have := bel.size; omega) (by simp)⟩).grown h3 hB (fun k hk => (hlt k hk).1)
  · exact m2.cell hk (by
      cases hv : v.ownBlock with
      | none => simp
      | some g => simp; have := (hlt g hv).2; omega)
  · intro g hg
    exact h2.ne hrd g hg (by simp)

set_option maxHeartbeats 400000 in
theorem scan_long (l : List UInt8) (W : World) (h1 : 65536 < l.length) (h2 : l.length ≤ 140737488351232) :
    Calls Tryd.prog 7 #[.string (strL l)] W fun e W' => e = .returned (.tuple #[.slice none 0 0, .int .i64 2, .int .i64 0, .int .i64 0]) ∧ W' = W := by
  have hsz : (strL l).size = l.length := strL_size l
  rw [← hsz] at h1 h2
  clear hsz
  generalize strL l = s at *
  go_enter Tryd.func7, Tryd.ntmps7
  go_wp2
  refine bodyPost_ret (v := .tuple #[.slice none 0 0, .int .i64 2, .int .i64 0, .int .i64 0]) (by simp [results, Tryd.results7, go_sem]) rfl ⟨rfl, rfl⟩

set_option maxHeartbeats 2000000 in
theorem scan_short (l0 : List UInt8) (W : World) (h1 : l0.length ≤ 65536) (hs : SignsAre W) (hm : MaxLenIs W) :
    Calls Tryd.prog 7 #[.string (strL l0)] W fun e W' => ∃ v, e = .returned (.tuple #[v, .int .i64 (scanL [] (1, 1) l0).2.1, .int .i64 ((scanL [] (1, 1) l0).2.2.1 : Nat), .int .i64 ((scanL [] (1, 1) l0).2.2.2 : Nat)]) ∧ OW W' W.heap.size v (scanL [] (1, 1) l0).1 ∧ Below W.heap.size W W' := by
  have hsz : (strL l0).size = l0.length := strL_size l0
  have hsz2 : (strL l0).size ≤ 65536 := by omega
  have HSG : Hid (∀ X, Below W.heap.size W X → SignsAre X ∧ MaxLenIs X) := fun X hX => ⟨hs.below hX hs.lt, by
    obtain ⟨m, hm⟩ := hm; exact ⟨m, by rw [hX.cell (p := ⟨1, 0, none⟩) (World.block_lt_of_cell? W _ hm)]; exact hm⟩⟩
  have HI0 : Hid (ScanInv W W.heap.size l0 (.slice none 0 0) (W.alloc (.cells #[.int .i64 1, .int .i64 1, .string (strL l0)] 34)) [] (1, 1) l0) := by
    refine ⟨OW.nil _ _, ⟨by simp [go_sem], by simp [go_sem], by simp [go_sem], fun i => by simp [go_sem]⟩, ⟨by simp, by simp, by simp; omega, by simp; omega⟩, (Below.refl _ _).alloc (Nat.le_refl _) _, rfl, by simpa using h1, fun g hg => by cases hg⟩
  have HQ : Hid (∃ r, r = W.heap.size) := ⟨_, rfl⟩
  clear hs hm hsz
  obtain ⟨r, hr⟩ : ∃ r, W.heap.size = r := ⟨_, rfl⟩
  have HR : Hid (r = W.heap.size) := hr.symm
  generalize hS : strL l0 = s at *
  clear hS
  go_enter Tryd.func7, Tryd.ntmps7
  go_wp2
  have HI1 : Hid (ScanInv W r l0 (.slice none 0 0) (W.alloc (.cells #[.int .i64 1, .int .i64 1, .string s] 34)) [] (1, 1) l0) := by have := HI0.out; rw [hr] at this; exact this
  clear HI0 hr HQ
  go_loopw [7] (fun v wr => ∃ acc p l, ScanInv W r l0 v wr acc p l) (fun v wr => match wr.cell? ⟨r, 2, none⟩ with | some (.string t) => t.size | _ => 0)
  case atStart => exact ⟨_, _, _, HI1.out⟩
  case round =>
    obtain ⟨acc, p, l, hinv⟩ := hrel
    have HI : Hid (ScanInv W r l0 u7 wr acc p l) := hinv
    have c2 := hinv.rd.c2
    have hsk := skip_any hinv.rd hinv.pl
    have HL := skipL_len p l
    have HLl := hinv.len
    clear hinv HI1
    go_wp2_with fail
    refine Calls.mono hsk ?_
    rintro e W1 ⟨rfl, hrd1, hpl1, hmod1⟩
    have HW1 : Hid (OW W1 W.heap.size u7 acc ∧ RdX W1 r (skipL p l).1 (skipL p l).2 ∧ PlaceOk (skipL p l).1 (skipL p l).2 ∧ Below W.heap.size W W1) :=
      ⟨HI.out.ow.mod hmod1 (by simpa using HI.out.ne), hrd1, hpl1, HI.out.bel.trans ⟨hmod1.os, hmod1.tape, hmod1.output, hmod1.size, fun k hk => hmod1.block k (by have := HI.out.bel.size; omega) (by have := HR.out; simp; omega)⟩⟩
    clear hsk hrd1 hpl1 hmod1
    by_cases hq : (skipL p l).2 = []
    · have HE : Hid (scanL [] (1, 1) l0 = (acc ++ [endW (skipL p l).1], 0, 0, 0)) := by show _ = _; rw [HI.out.eq, scanL_end hq]
      have hwd := word_end (W := W1) (r := r) (p := (skipL p l).1) (by have := HW1.out.2.1; rw [hq] at this; exact this) (by have := HW1.out.2.2.1; rw [hq] at this; exact this)
      clear hq c2
      generalize (skipL p l).1 = q1 at *
      simp only [wordV, endW] at hwd
      go_wp2_with fail
      refine Calls.mono hwd ?_
      rintro e W2 ⟨rfl, hrd2, hmod2⟩
      have HW2 : Hid (OW W2 W.heap.size u7 acc ∧ RdX W2 r q1 [] ∧ Below W.heap.size W W2) := ⟨HW1.out.1.mod hmod2 (by simp), hrd2, HW1.out.2.2.2.trans ⟨hmod2.os, hmod2.tape, hmod2.output, hmod2.size, fun k hk => hmod2.block k (by have := HW1.out.2.2.2.size; omega) (by simp)⟩⟩
      clear hrd2 hmod2 hwd
      obtain ⟨v', w', g1, g2, g3, g4, g5, g6⟩ := grow_words HW2.out.1 HW2.out.2.1 HW2.out.2.2 (by omega) HI.out.ne (endW q1) HR.out
      simp only [endW] at g1 g5
      have HA : Hid (OW w' W.heap.size v' (acc ++ [endW q1]) ∧ Below W.heap.size W w') := ⟨g2, g4⟩
      have HG := (show Hid _ from g1)
      clear g1 g2 g3 g4 g6
      have hb2 : strL [] = ⟨#[]⟩ := rfl
      rw [hb2] at HG ⊢
      go_wp2_with (at_builtin; go_must (refine append_runW (by rfl) _ _ (by rfl) (by rfl) _ _ _ _ (by rfl) (by rfl) HG.out ?_))
      refine bodyPost_ret (v := .tuple #[v', .int .i64 0, .int .i64 0, .int .i64 0]) (by simp [results, Tryd.results7, go_sem]) rfl ?_
      rw [HE.out]
      exact ⟨v', rfl, HA.out.1, HA.out.2⟩
    · have hSM := HSG.out W1 HW1.out.2.2.2
      by_cases he : errOf (skipL p l).2 = 0
      · have HE : Hid (scanL [] (1, 1) l0 = scanL (acc ++ [wordOf (skipL p l).1 (skipL p l).2]) (passL (skipL p l).1 ((skipL p l).2.take (measureL (skipL p l).2).2)) ((skipL p l).2.drop (measureL (skipL p l).2).2)) := by show _ = _; rw [HI.out.eq, scanL_go hq he]
        have hwd : Calls Tryd.prog 10 #[.pointer (some ⟨r, 0, none⟩)] W1 fun e W' => e = .returned (.tuple #[wordV (wordOf (skipL p l).1 (skipL p l).2), .int .i64 0]) ∧ RdX W' r (passL (skipL p l).1 ((skipL p l).2.take (measureL (skipL p l).2).2)) ((skipL p l).2.drop (measureL (skipL p l).2).2) ∧ Mod [r] W1 W' := word_ok HW1.out.2.1 HW1.out.2.2.1 hSM.1 hSM.2 hq he
        have hsh := drop_shorter hq he
        have HP : Hid (PlaceOk (passL (skipL p l).1 ((skipL p l).2.take (measureL (skipL p l).2).2)) ((skipL p l).2.drop (measureL (skipL p l).2).2)) := HW1.out.2.2.1.step _ (measureL_le _)
        have hkd : (wordOf (skipL p l).1 (skipL p l).2).kind = 1 ∨ (wordOf (skipL p l).1 (skipL p l).2).kind = 2 ∨ (wordOf (skipL p l).1 (skipL p l).2).kind = 3 := measureL_kind _
        have hln : (strL l).size = l.length := strL_size l
        clear hq he hSM
        generalize wordOf (skipL p l).1 (skipL p l).2 = x at *
        generalize passL (skipL p l).1 ((skipL p l).2.take (measureL (skipL p l).2).2) = p2 at *
        generalize (skipL p l).2.drop (measureL (skipL p l).2).2 = l2 at *
        generalize (skipL p l).2.length = n1 at *
        have hshort : l2.length < l.length := by omega
        clear hsh HL
        simp only [wordV] at hwd
        go_wp2_with fail
        refine Calls.mono hwd ?_
        rintro e W2 ⟨rfl, hrd2, hmod2⟩
        have HW2 : Hid (OW W2 W.heap.size u7 acc ∧ RdX W2 r p2 l2 ∧ Below W.heap.size W W2) := ⟨HW1.out.1.mod hmod2 (by simpa using HI.out.ne), hrd2, HW1.out.2.2.2.trans ⟨hmod2.os, hmod2.tape, hmod2.output, hmod2.size, fun k hk => hmod2.block k (by have := HW1.out.2.2.2.size; omega) (by have := HR.out; simp; omega)⟩⟩
        clear hrd2 hmod2 hwd HW1
        obtain ⟨v', w', g1, g2, g3, g4, g5, g6⟩ := grow_words HW2.out.1 HW2.out.2.1 HW2.out.2.2 (by omega) HI.out.ne x HR.out
        have HA : Hid (ScanInv W r l0 v' w' (acc ++ [x]) p2 l2) := ⟨g2, g3, HP.out, g4, HE.out, by rw [List.length_append]; simp; omega, g6⟩
        have HG := (show Hid _ from g1)
        have e2 := g3.c2
        have hsz2 : (strL l2).size = l2.length := strL_size l2
        clear g1 g2 g3 g4 g6 HP HE
        obtain ⟨xk, xt, xn, xl, xc⟩ := x
        simp only at hkd g5 HG ⊢
        generalize strL xt = sx at *
        have hk0 : ((xk : Int) == 0) = false := by simp; omega
        clear HW2
        go_wp2_with (at_builtin; go_must (refine append_runW (by rfl) _ _ (by rfl) (by rfl) _ _ _ _ (by rfl) (by rfl) HG.out ?_))
        go_roundw
        case rel => exact ⟨_, _, _, HA.out⟩
        case measure => simp only [e2, c2]; omega
      · have HE : Hid (scanL [] (1, 1) l0 = ([], errOf (skipL p l).2, (skipL p l).1.1, (skipL p l).1.2)) := by show _ = _; rw [HI.out.eq, scanL_err hq he]
        have hwd : Calls Tryd.prog 10 #[.pointer (some ⟨r, 0, none⟩)] W1 fun e W' => e = .returned (.tuple #[wordV zeroW, .int .i64 (errOf (skipL p l).2)]) ∧ RdX W' r (skipL p l).1 (skipL p l).2 ∧ Mod [] W1 W' := word_err HW1.out.2.1 HW1.out.2.2.1 hSM.1 hSM.2 hq he
        clear hq c2 hSM
        generalize errOf (skipL p l).2 = er at *
        have her : (er == 0) = false := by simpa using he
        have her2 : (er != 0) = true := by simpa using he
        clear he HL
        generalize (skipL p l).1 = q1 at *
        generalize (skipL p l).2 = q2 at *
        simp only [wordV, zeroW] at hwd
        go_wp2_with fail
        refine Calls.mono hwd ?_
        rintro e W2 ⟨rfl, hrd2, hmod2⟩
        have HB2 : Hid (Below W.heap.size W W2) := HW1.out.2.2.2.trans ⟨hmod2.os, hmod2.tape, hmod2.output, hmod2.size, fun k hk => hmod2.block k (by have := HW1.out.2.2.2.size; omega) (by simp)⟩
        have d0 := hrd2.c0
        have d1 := hrd2.c1
        have hlr : r < W2.heap.size := hrd2.lt
        have hner : ¬ W2.heap.size = r := by omega
        have hWW : W.heap.size ≤ W2.heap.size := HB2.out.size
        clear hrd2 hmod2 hwd
        obtain ⟨z1, z2⟩ := q1
        simp only at d0 d1 HE
        go_wp2
        go_region
        all_goals
          go_wp2
          refine bodyPost_ret (v := .tuple #[.slice none 0 0, .int .i64 er, .int .i64 (z1 : Int), .int .i64 (z2 : Int)]) (by simp [results, Tryd.results7, go_sem]) rfl ?_
          rw [HE.out]
          refine ⟨_, rfl, OW.nil _ _, ?_⟩
          first | exact (HB2.out.alloc hWW _).drew | exact HB2.out.alloc hWW _

/-- What Scan leaves. -/
def Scanned (W W' : World) (v : Value) (l : List UInt8) : Prop := OW W' W.heap.size v (scanT l).1 ∧ Below W.heap.size W W'
/-- What Scan hands back. -/
def scanV (v : Value) (t : List Wd × Int × Nat × Nat) : Value := .tuple #[v, .int .i64 t.2.1, .int .i64 (t.2.2.1 : Nat), .int .i64 (t.2.2.2 : Nat)]
theorem scan_any (l : List UInt8) (W : World) (h : l.length ≤ 140737488351232) (hs : SignsAre W) (hm : MaxLenIs W) :
    Calls Tryd.prog 7 #[.string (strL l)] W fun e W' => ∃ v, e = .returned (scanV v (scanT l)) ∧ Scanned W W' v l := by
  by_cases h1 : 65536 < l.length
  · refine (scan_long l W h1 h).mono ?_
    rintro e W' ⟨rfl, rfl⟩
    have e1 : scanT l = ([], 2, 0, 0) := by unfold scanT; rw [if_pos h1]
    refine ⟨.slice none 0 0, by rw [e1]; rfl, ?_, Below.refl _ _⟩
    rw [e1]; exact OW.nil _ _
  · refine (scan_short l W (by omega) hs hm).mono ?_
    rintro e W' ⟨v, rfl, h2, h3⟩
    have e1 : scanT l = scanL [] (1, 1) l := by unfold scanT; rw [if_neg h1]
    refine ⟨v, by rw [e1]; rfl, ?_, h3⟩
    rw [e1]; exact h2
end Go.Proofs.YtkkgfbhngoijaaaDoor
