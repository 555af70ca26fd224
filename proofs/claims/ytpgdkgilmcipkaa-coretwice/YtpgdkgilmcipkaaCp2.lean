/- The contract of core's some's add: its walk. Conditions: at most 2^29 formulas. What or makes; the contract of core's some's surely; rows that a some does not own. Conditions: at most 2^29 formulas. The contract of tree's Split of what was there in an elder world. Conditions: at most 2^40 nodes, each of at most 2^40 terms. The contract of core's Or. Conditions: at most 2^27 nodes and lists in all, of few terms with short names. -/
import Derived.Test.YtpgdkgilmcipkaaCp1
import Derived.Test.YtpgdkgilmcipkaaTrE
namespace Go.Proofs.Ytpgdkgilmcipkaa
open Go.RowKit Go.Maps Go.ChangeShapes
set_option linter.unusedVariables false
set_option maxRecDepth 100000

/-- A look-up whose run is known, at a step of a region that draws. -/
theorem lookup_stepO {ops : Array Oper} {o : Oper} {a : Act} {w : World} {K : Act → World → Prop} {Q : Exit → Act → World → Prop} {E : Prop} {t : TypeId} (hw : Region.wanted o (yielded ops a.tmps) = true) (m x : Operand)
    (ho : o.op = .lookup t m x false) (mv kv v : Value) (hm : a.eval m = mv) (hx : a.eval x = kv) (hr : (Instr.lookup t mv kv false).run Try.prog w = .ok v w) (h : K (a.put o.dst v) w) :
    if Region.wanted o (yielded ops a.tmps) = true then Oper.wp Try.prog o a w K Q else E := by
  rw [if_pos hw]
  unfold Oper.wp
  simp [execOp, ho, hm, hx, hr, Result.andThen]
  exact h
/-- A store into a map whose run is known, at a step of a region that draws. -/
theorem mapUpdate_stepO {ops : Array Oper} {o : Oper} {a : Act} {w w' : World} {K : Act → World → Prop} {Q : Exit → Act → World → Prop} {E : Prop} {t : TypeId} (hw : Region.wanted o (yielded ops a.tmps) = true) (m x y : Operand)
    (ho : o.op = .mapUpdate t m x y) (mv kv yv : Value) (hm : a.eval m = mv) (hx : a.eval x = kv) (hy : a.eval y = yv) (hr : (Instr.mapUpdate t mv kv yv).run Try.prog w = .ok () w') (h : K (a.put o.dst undef) w') :
    if Region.wanted o (yielded ops a.tmps) = true then Oper.wp Try.prog o a w K Q else E := by
  rw [if_pos hw]
  unfold Oper.wp
  simp [execOp, ho, hm, hx, hy, hr, Result.andThen]
  exact h
theorem nil_Map (W : World) : (binOp .eql 79 (.map none) (.map none)).run Try.prog W = .ok (.bool true) W := by kernel_rfl
theorem some_Map (b : Nat) (W : World) : (binOp .eql 79 (.map (some b)) (.map none)).run Try.prog W = .ok (.bool false) W := by kernel_rfl
theorem addV_skip1 {L : List LsV} {y : LsV} (h : isB y.nds 1 = true) : addV L y = L := by unfold addV; rw [h]; rfl
theorem addV_skip2 {L : List LsV} {y : LsV} (h : hasV L y.nds = true) : addV L y = L := by unfold addV; rw [h]; simp
theorem addV_go {L : List LsV} {y : LsV} (h : isB y.nds 1 = false) (k : hasV L y.nds = false) : addV L y = L ++ [y] := by unfold addV; rw [h, k]; rfl
theorem addV_len (K : List LsV) : ∀ L : List LsV, (K.foldl addV L).length ≤ L.length + K.length := by
  induction K with
  | nil => intro L; simp
  | cons y K ih =>
    intro L
    have := ih (addV L y)
    have h2 : (addV L y).length ≤ L.length + 1 := by unfold addV; split <;> simp
    simp only [List.foldl_cons, List.length_cons]; omega
set_option maxHeartbeats 16000000 in
theorem add8_any (W : World) (p : Nat) (X : World) (L0 : List LsV) (a : Option Addr) (cap : Nat) (K : List LsV) (hst : (SomeNil W p X ∧ L0 = [] ∧ RowOf lsC 1 X a K ∧ ¬ InRow a p ∧ ∀ g, InRow a g → g < X.heap.size) ∨ ∃ lv b D n, SomeAt W p X lv L0 b D n ∧ RowBy X b p lv a K)
    (hk : ∀ y ∈ K, NdsAt W y.a y.cap y.ys) (hg : ∀ y ∈ K, Markable y.nds) (hl : L0.length + K.length ≤ 536870912) :
    Calls Try.prog 42 #[.pointer (some ⟨p, 0, none⟩), .slice a K.length cap] X fun e W' => e = .returned (.tuple #[]) ∧ ∃ lv b D n, SomeAt W p W' lv (K.foldl addV L0) b D n := by
  have HK : Hid (∀ y ∈ K, NdsAt W y.a y.cap y.ys) := hk
  have HG : Hid (∀ y ∈ K, Markable y.nds) := hg
  have HL : Hid (∀ k, ((K.take k).foldl addV L0).length ≤ 536870912) := fun k => by have := addV_len (K.take k) L0; rw [List.length_take] at this; show _ ≤ _; omega
  clear hk hg
  rcases hst with ⟨hnil, rfl, hrow, hnp, hlt⟩ | ⟨lv, b, D, n, hsome, hrb⟩
  · have HS0 : Hid (SomeAt W p ((X.alloc (.map #[] 0)).setCell ⟨p, 1, none⟩ (.map (some X.heap.size))) (.slice none 0 0) [] X.heap.size (.map []) 0) := hnil.made
    have hp : p < X.heap.size := World.block_lt_of_cell? X _ hnil.c0
    have hmod : Mod [p] (X.alloc (.map #[] 0)) ((X.alloc (.map #[] 0)).setCell ⟨p, 1, none⟩ (.map (some X.heap.size))) := ⟨rfl, rfl, rfl, by simp, fun q hq hs => Below.heap_setCell _ _ _ _ (by simpa using hs)⟩
    have HR0 : Hid (RowBy ((X.alloc (.map #[] 0)).setCell ⟨p, 1, none⟩ (.map (some X.heap.size))) X.heap.size p (.slice none 0 0) a K) := RowBy.first rfl hmod hp hrow hnp hlt
    have c1 := hnil.c1
    have f1 := hnil.f1
    have hcm : (X.alloc (.map #[] 0)).setCell ⟨p, 1, none⟩ (.map (some X.heap.size)) = (X.setCell ⟨p, 1, none⟩ (.map (some X.heap.size))).alloc (.map #[] 0) := by
      first | exact World.setCell_alloc_past _ _ _ _ hp | exact World.setCell_alloc_past _ _ _ _ _ hp | simp [go_sem, hp]
    rw [hcm] at HS0 HR0
    have c1b : (X.alloc (.map #[] 0)).cell? ⟨p, 1, none⟩ = some (.map none) := by rw [cell_alloc_lt _ _ _ _ hp]; exact c1
    have f1b : (X.alloc (.map #[] 0)).frozen? ⟨p, 1, none⟩ = false := by rw [frozen_alloc_lt _ _ _ _ hp]; exact f1
    have hmm := @run_makeMap Try.prog
    have hnm := nil_Map
    have hpx : p ≠ X.heap.size := by omega
    clear hnil hrow hnp hlt hmod hcm
    go_enter Try.func42, Try.ntmps42
    go_wp2
    clear c1
    go_loopw [18] (fun i wr => ∃ (k : Nat) (lv : Value) (b : Nat) (D : DataW Unit) (n : Nat), k ≤ K.length ∧ i = .int .i64 k ∧ SomeAt W p wr lv ((K.take k).foldl addV []) b D n ∧ RowBy wr b p lv a K) (fun i _ => K.length - (intOf i).toNat)
    case atStart => exact ⟨0, _, _, _, _, Nat.zero_le _, rfl, HS0.out, HR0.out⟩
    case round =>
      obtain ⟨k, lv, b, D, n, hkl, rfl, hs, hr⟩ := hrel
      have HS : Hid (SomeAt W p wr lv ((K.take k).foldl addV []) b D n) := hs
      have HR : Hid (RowBy wr b p lv a K) := hr
      clear hs hr
      by_cases hlt : k < K.length
      · obtain ⟨rb, ro, rfl, hcl⟩ := HR.out.row k hlt
        have hcl := hcl 0 (by omega)
        have hym := getD_mem default hlt
        have HY : Hid (NdsAt W (K.getD k default).a (K.getD k default).cap (K.getD k default).ys) := HK.out _ hym
        have HGY : Hid (Markable (K.getD k default).nds) := HG.out _ hym
        have HF : Hid ((K.take (k + 1)).foldl addV [] = addV ((K.take k).foldl addV []) (K.getD k default)) := foldl_take addV default [] K k hlt
        have hll := HL.out k
        clear hym
        generalize (K.take k).foldl addV [] = L at *
        generalize K.getD k default = y at *
        obtain ⟨ys, ya, yc⟩ := y
        simp [lsC] at hcl
        have hi := is_nds HY.out 1 wr HS.out.bel
        have hbl : b < wr.heap.size := HS.out.map.lt
        simp only at HY HGY
        cases h1 : isB (ys.map (·.x)) 1 with
        | true =>
          rw [h1] at hi
          have HZ : Hid ((K.take (k + 1)).foldl addV [] = L) := by show _ = _; rw [HF.out]; exact addV_skip1 h1
          clear h1
          go_wp2_with (go_at_call 38; refine hi.mono ?_; rintro e w' ⟨rfl, hw⟩; subst w')
          go_roundw
          case rel => exact ⟨k + 1, lv, b, D, n, by omega, by go_num, by rw [HZ.out]; exact HS.out, HR.out⟩
          case measure => simp [intOf]; omega
        | false =>
          have hh := has8_any W p wr lv L b D n HS.out ya yc ys HY.out HGY.out (by omega)
          rw [h1] at hi
          cases h2 : hasV L (ys.map (·.x)) with
          | true =>
            rw [h2] at hh
            have HZ : Hid ((K.take (k + 1)).foldl addV [] = L) := by show _ = _; rw [HF.out]; exact addV_skip2 h2
            clear h1 h2
            go_wp2_with (go_at_call 38; refine hi.mono ?_; rintro e w' ⟨rfl, hw⟩; subst w')
            refine Calls.mono hh ?_
            rintro e W2 ⟨rfl, hb2⟩
            have HS2 : Hid (SomeAt W p W2 lv L b D n) := HS.out.below hb2
            have HR2 : Hid (RowBy W2 b p lv _ K) := HR.out.below hbl hb2
            clear hb2 hh hi
            go_wp2
            go_roundw
            case rel => exact ⟨k + 1, lv, b, D, n, by omega, by go_num, by rw [HZ.out]; exact HS2.out, HR2.out⟩
            case measure => simp [intOf]; omega
          | false =>
            rw [h2] at hh
            have HZ : Hid ((K.take (k + 1)).foldl addV [] = L ++ [⟨ys, ya, yc⟩]) := by show _ = _; rw [HF.out]; exact addV_go h1 h2
            clear h1 h2
            have HMK : Hid (∀ Y, Below W.heap.size W Y → Calls Try.prog 64 #[.slice ya ys.length yc] Y fun e W' => e = .returned (.int .u64 (markL (ys.map (·.x)))) ∧ Below Y.heap.size Y W') := fun Y hY => by
              have hgy : Markable (ys.map (·.x)) := HGY.out
              have := mark_any ya yc (ys.map (·.x)) Y (HY.out.below hY).nodes hgy.1 hgy.2.1 hgy.2.2
              rw [List.length_map] at this; exact this
            go_wp2_with (go_at_call 38; refine hi.mono ?_; rintro e w' ⟨rfl, hw⟩; subst w')
            refine Calls.mono hh ?_
            rintro e W2 ⟨rfl, hb2⟩
            have HS2 : Hid (SomeAt W p W2 lv L b D n) := HS.out.below hb2
            have HR2 : Hid (RowBy W2 b p lv _ K) := HR.out.below hbl hb2
            have hbl2 : b < W2.heap.size := HS2.out.map.lt
            clear hb2 hh hi HS HR
            go_wp2_with fail
            refine Calls.mono (HMK.out W2 HS2.out.bel) ?_
            rintro e W3 ⟨rfl, hb3⟩
            have HS3 : Hid (SomeAt W p W3 lv L b D n) := HS2.out.below hb3
            have HR3 : Hid (RowBy W3 b p lv _ K) := HR2.out.below hbl2 hb3
            clear hb3 HS2 HR2 HMK
            have hbl3 : b < W3.heap.size := HS3.out.map.lt
            have hlen : (L.map LsV.nds).length = L.length := List.length_map _
            have B0 : Below W3.heap.size W3 W3.drew := (Below.refl _ _).drew
            have B1 : Below W3.heap.size W3 (W3.drew.alloc (.cells #[.int .i64 L.length] 3)) := B0.alloc (Nat.le_refl _) _
            have B2 : Below W3.drew.heap.size W3.drew (W3.drew.alloc (.cells #[.int .i64 L.length] 3)) := (Below.refl _ _).alloc (Nat.le_refl _) _
            have hcell : (W3.drew.alloc (.cells #[.int .i64 L.length] 3)).cell? ⟨W3.heap.size, 0, none⟩ = some (.int .i64 ((L.map LsV.nds).length : Nat)) := by rw [hlen]; simp [go_sem]
            have hlvlt : ∀ g, lv.ownBlock = some g → g < W3.heap.size := fun g hg => (Own.lt HS3.out.own g hg).2
            obtain ⟨a1, n1, c1, a2, n2, c2, X2, X3, D1, lkA, apA, upA, mA, SA, mdA, mdA2, geA, noA⟩ := (HS3.out.map.below B0).push (ys.map (·.x)) (by rw [hlen]; omega) B2 hlvlt W3.heap.size hcell
            obtain ⟨b1, k1, e1, b2, k2, e2, Z2, Z3, D2, lkB, apB, upB, mB, SB, mdB, mdB2, geB, noB⟩ := (HS3.out.map.below B1).push (ys.map (·.x)) (by rw [hlen]; omega) (Below.refl _ _) (fun g hg => by have := hlvlt g hg; simp; omega) W3.heap.size hcell
            have R0 := HR3.out.below hbl3 B0
            have R1 := HR3.out.below hbl3 B1
            have S1 := HS3.out.below B1
            obtain ⟨oA1, oA2⟩ := noA _ R0.sh R0.lt R0.nb
            obtain ⟨oB1, oB2⟩ := noB _ R1.sh R1.lt R1.nb
            have lA := (noA _ (HS3.out.map.below B0).sh (fun g hg => hlvlt g hg) (HS3.out.map.ne)).2
            have lB := (noB _ (HS3.out.map.below B1).sh (fun g hg => by have := hlvlt g hg; simp; omega) (HS3.out.map.ne)).2
            obtain ⟨a3, n3, c3, Y, apC, yc0, ycf, sC, rC⟩ := S1.push R1 ⟨ys, ya, yc⟩ HY.out HGY.out mA SA mdA geA lA oA1 oA2 (by omega)
            obtain ⟨b3, k3, e3, V, apD, vc0, vcf, sD, rD⟩ := S1.push R1 ⟨ys, ya, yc⟩ HY.out HGY.out mB SB mdB geB lB oB1 oB2 (by omega)
            have pA : ∀ i ∈ SA, p ≠ i := fun i hi e => by have := geA i hi; have := HS3.out.pb; omega
            have pB : ∀ i ∈ SB, p ≠ i := fun i hi e => by have := geB i hi; have := HS3.out.pb; omega
            have xc0 : X3.cell? ⟨p, 0, none⟩ = some lv := mdA.cell S1.c0 (fun q => pA p q rfl)
            have zc0 : Z3.cell? ⟨p, 0, none⟩ = some lv := mdB.cell S1.c0 (fun q => pB p q rfl)
            obtain ⟨la, lc, rfl, _, _, _⟩ := HS3.out.own.sl lsC_len default
            have HEA : Hid (∃ a3 n3 c3 Y D', (Builtin.append_ #[39, 39] 39 #[.slice la L.length lc, .slice (some ⟨X3.heap.size, 0, none⟩) 1 1]).run Try.prog (X3.alloc (.cells #[.slice ya ys.length yc] 28)) = .ok (.slice a3 n3 c3) Y ∧ X3.cell? ⟨p, 0, none⟩ = some (.slice la L.length lc) ∧ Y.cell? ⟨p, 0, none⟩ = some (.slice la L.length lc) ∧ Y.frozen? ⟨p, 0, none⟩ = false ∧ SomeAt W p (Y.setCell ⟨p, 0, none⟩ (.slice a3 n3 c3)) (.slice a3 n3 c3) (L ++ [⟨ys, ya, yc⟩]) b D' (n + 1) ∧ RowBy (Y.setCell ⟨p, 0, none⟩ (.slice a3 n3 c3)) b p (.slice a3 n3 c3) (some ⟨rb, ro, none⟩) K) := ⟨a3, n3, c3, Y, D1, apC, xc0, yc0, ycf, sC, rC⟩
            have HEB : Hid (∃ a3 n3 c3 Y D', (Builtin.append_ #[39, 39] 39 #[.slice la L.length lc, .slice (some ⟨Z3.heap.size, 0, none⟩) 1 1]).run Try.prog (Z3.alloc (.cells #[.slice ya ys.length yc] 28)) = .ok (.slice a3 n3 c3) Y ∧ Z3.cell? ⟨p, 0, none⟩ = some (.slice la L.length lc) ∧ Y.cell? ⟨p, 0, none⟩ = some (.slice la L.length lc) ∧ Y.frozen? ⟨p, 0, none⟩ = false ∧ SomeAt W p (Y.setCell ⟨p, 0, none⟩ (.slice a3 n3 c3)) (.slice a3 n3 c3) (L ++ [⟨ys, ya, yc⟩]) b D' (n + 1) ∧ RowBy (Y.setCell ⟨p, 0, none⟩ (.slice a3 n3 c3)) b p (.slice a3 n3 c3) (some ⟨rb, ro, none⟩) K) := ⟨b3, k3, e3, V, D2, apD, zc0, vc0, vcf, sD, rD⟩
            have apA2 : (Builtin.append_ #[102, 102] 102 #[.slice a1 n1 c1, .slice (some ⟨W3.heap.size, 0, none⟩) 1 1]).run Try.prog (W3.drew.alloc (.cells #[.int .i64 L.length] 3)) = .ok (.slice a2 n2 c2) X2 := apA
            have LKA : Hid _ := lkA
            have LKB : Hid _ := lkB
            have APA : Hid _ := apA2
            have APB : Hid _ := apB
            have UPA : Hid _ := upA
            have UPB : Hid _ := upB
            have HC01 : Hid (∀ Y, Below W3.heap.size W3 Y → Y.cell? ⟨p, 0, none⟩ = some (.slice la L.length lc) ∧ Y.cell? ⟨p, 1, none⟩ = some (.map (some b))) := fun Y hY => ⟨(HS3.out.below hY).c0, (HS3.out.below hY).c1⟩
            have HB1 : Hid (Below W3.heap.size W3 (W3.drew.alloc (.cells #[.int .i64 L.length] 3))) := B1
            have HB0 : Hid (Below W3.heap.size W3 W3.drew) := B0
            have HX2A : Hid (X2.cell? ⟨p, 0, none⟩ = some (.slice la L.length lc) ∧ X2.cell? ⟨p, 1, none⟩ = some (.map (some b))) := ⟨mdA2.cell S1.c0 (fun q => pA p q rfl), mdA2.cell S1.c1 (fun q => pA p q rfl)⟩
            have HX2B : Hid (Z2.cell? ⟨p, 0, none⟩ = some (.slice la L.length lc) ∧ Z2.cell? ⟨p, 1, none⟩ = some (.map (some b))) := ⟨mdB2.cell S1.c0 (fun q => pB p q rfl), mdB2.cell S1.c1 (fun q => pB p q rfl)⟩
            have HX3A : Hid (X3.cell? ⟨p, 0, none⟩ = some (.slice la L.length lc) ∧ X3.cell? ⟨p, 1, none⟩ = some (.map (some b))) := ⟨mdA.cell S1.c0 (fun q => pA p q rfl), mdA.cell S1.c1 (fun q => pA p q rfl)⟩
            have HX3B : Hid (Z3.cell? ⟨p, 0, none⟩ = some (.slice la L.length lc) ∧ Z3.cell? ⟨p, 1, none⟩ = some (.map (some b))) := ⟨mdB.cell S1.c0 (fun q => pB p q rfl), mdB.cell S1.c1 (fun q => pB p q rfl)⟩
            clear lkA lkB apA apA2 apB upA upB mA mB mdA mdB mdA2 mdB2 geA geB noA noB R0 R1 S1 oA1 oA2 oB1 oB2 lA lB apC apD sC sD rC rD pA pB xc0 zc0 yc0 vc0 ycf vcf B0 B1 B2 hcell hlvlt hlen HR3
            go_wp2_with fail
            refine wp_region_held_drew (S := fun W' => W'.cell? ⟨p, 0, none⟩ = some (.slice la L.length lc) ∧ W'.cell? ⟨p, 1, none⟩ = some (.map (some b))) (by kernel_rfl) (HC01.out _ HB0.out) (fun hHeld => ?_)
            refine wpAnyH_take (i := 0) (oi := { dst := some 33, op := Op.move (Operand.tmp 0), type := 99, pos := "some.go:22", after := #[], guard := none }) (v := ?_) rfl (by kernel_rfl) (by kernel_rfl) (by kernel_rfl) (fun _ _ _ h => h) (Or.inl ⟨by rfl, ?_⟩) hHeld ?_
            rotate_left
            · (intro w hSw; (try dsimp only at hSw); go_simp; all_goals (try with_reducible rfl))
            try simp only [Act.put, List.setIfInBounds_toArray, List.set_cons_zero, List.set_cons_succ]
            refine wpAnyH_take (i := 1) (oi := { dst := some 34, op := Op.nilCheck (Operand.tmp 33), type := 0, pos := "some.go:22", after := #[{ on := 0, ground := Ground.data }], guard := none }) (v := ?_) rfl (by kernel_rfl) (by kernel_rfl) (by kernel_rfl) (fun _ _ _ h => h) (Or.inl ⟨by rfl, ?_⟩) hHeld ?_
            rotate_left
            · (intro w hSw; (try dsimp only at hSw); go_simp; all_goals (try with_reducible rfl))
            try simp only [Act.put, List.setIfInBounds_toArray, List.set_cons_zero, List.set_cons_succ]
            refine wpAnyH_take (i := 2) (oi := { dst := some 35, op := Op.fieldAddr 81 (Operand.tmp 34) 1, type := 0, pos := "some.go:22", after := #[{ on := 1, ground := Ground.data }], guard := none }) (v := ?_) rfl (by kernel_rfl) (by kernel_rfl) (by kernel_rfl) (fun _ _ _ h => h) (Or.inl ⟨by rfl, ?_⟩) hHeld ?_
            rotate_left
            · (intro w hSw; (try dsimp only at hSw); go_simp; all_goals (try with_reducible rfl))
            try simp only [Act.put, List.setIfInBounds_toArray, List.set_cons_zero, List.set_cons_succ]
            refine wpAnyH_take (i := 3) (oi := { dst := some 36, op := Op.load 79 (Operand.tmp 35), type := 79, pos := "some.go:22", after := #[{ on := 2, ground := Ground.data }], guard := none }) (v := ?_) rfl (by kernel_rfl) (by kernel_rfl) (by kernel_rfl) (fun _ _ _ h => h) (Or.inl ⟨by rfl, ?_⟩) hHeld ?_
            rotate_left
            · (intro w hSw; (try dsimp only at hSw); go_simp; all_goals (try with_reducible rfl))
            try simp only [Act.put, List.setIfInBounds_toArray, List.set_cons_zero, List.set_cons_succ]
            refine wpAnyH_take (i := 4) (oi := { dst := some 37, op := Op.move (Operand.tmp 6), type := 100, pos := "some.go:22", after := #[], guard := none }) (v := ?_) rfl (by kernel_rfl) (by kernel_rfl) (by kernel_rfl) (fun _ _ _ h => h) (Or.inl ⟨by rfl, ?_⟩) hHeld ?_
            rotate_left
            · (intro w hSw; (try dsimp only at hSw); go_simp; all_goals (try with_reducible rfl))
            try simp only [Act.put, List.setIfInBounds_toArray, List.set_cons_zero, List.set_cons_succ]
            refine wpAnyH_take (i := 5) (oi := { dst := some 38, op := Op.move (Operand.tmp 0), type := 99, pos := "some.go:22", after := #[], guard := none }) (v := ?_) rfl (by kernel_rfl) (by kernel_rfl) (by kernel_rfl) (fun _ _ _ h => h) (Or.inl ⟨by rfl, ?_⟩) hHeld ?_
            rotate_left
            · (intro w hSw; (try dsimp only at hSw); go_simp; all_goals (try with_reducible rfl))
            try simp only [Act.put, List.setIfInBounds_toArray, List.set_cons_zero, List.set_cons_succ]
            refine wpAnyH_take (i := 6) (oi := { dst := some 39, op := Op.nilCheck (Operand.tmp 38), type := 0, pos := "some.go:22", after := #[{ on := 5, ground := Ground.data }], guard := none }) (v := ?_) rfl (by kernel_rfl) (by kernel_rfl) (by kernel_rfl) (fun _ _ _ h => h) (Or.inl ⟨by rfl, ?_⟩) hHeld ?_
            rotate_left
            · (intro w hSw; (try dsimp only at hSw); go_simp; all_goals (try with_reducible rfl))
            try simp only [Act.put, List.setIfInBounds_toArray, List.set_cons_zero, List.set_cons_succ]
            refine wpAnyH_take (i := 7) (oi := { dst := some 40, op := Op.fieldAddr 81 (Operand.tmp 39) 1, type := 0, pos := "some.go:22", after := #[{ on := 6, ground := Ground.data }], guard := none }) (v := ?_) rfl (by kernel_rfl) (by kernel_rfl) (by kernel_rfl) (fun _ _ _ h => h) (Or.inl ⟨by rfl, ?_⟩) hHeld ?_
            rotate_left
            · (intro w hSw; (try dsimp only at hSw); go_simp; all_goals (try with_reducible rfl))
            try simp only [Act.put, List.setIfInBounds_toArray, List.set_cons_zero, List.set_cons_succ]
            refine wpAnyH_take (i := 8) (oi := { dst := some 41, op := Op.load 79 (Operand.tmp 40), type := 79, pos := "some.go:22", after := #[{ on := 7, ground := Ground.data }], guard := none }) (v := ?_) rfl (by kernel_rfl) (by kernel_rfl) (by kernel_rfl) (fun _ _ _ h => h) (Or.inl ⟨by rfl, ?_⟩) hHeld ?_
            rotate_left
            · (intro w hSw; (try dsimp only at hSw); go_simp; all_goals (try with_reducible rfl))
            try simp only [Act.put, List.setIfInBounds_toArray, List.set_cons_zero, List.set_cons_succ]
            refine wpAnyH_take (i := 9) (oi := { dst := some 42, op := Op.move (Operand.tmp 6), type := 100, pos := "some.go:22", after := #[], guard := none }) (v := ?_) rfl (by kernel_rfl) (by kernel_rfl) (by kernel_rfl) (fun _ _ _ h => h) (Or.inl ⟨by rfl, ?_⟩) hHeld ?_
            rotate_left
            · (intro w hSw; (try dsimp only at hSw); go_simp; all_goals (try with_reducible rfl))
            try simp only [Act.put, List.setIfInBounds_toArray, List.set_cons_zero, List.set_cons_succ]
            refine wpAnyH_take (i := 11) (oi := { dst := some 44, op := Op.move (Operand.tmp 0), type := 99, pos := "some.go:22", after := #[], guard := none }) (v := ?_) rfl (by kernel_rfl) (by kernel_rfl) (by kernel_rfl) (fun _ _ _ h => h) (Or.inl ⟨by rfl, ?_⟩) hHeld ?_
            rotate_left
            · (intro w hSw; (try dsimp only at hSw); go_simp; all_goals (try with_reducible rfl))
            try simp only [Act.put, List.setIfInBounds_toArray, List.set_cons_zero, List.set_cons_succ]
            refine wpAnyH_take (i := 12) (oi := { dst := some 45, op := Op.nilCheck (Operand.tmp 44), type := 0, pos := "some.go:22", after := #[{ on := 11, ground := Ground.data }], guard := none }) (v := ?_) rfl (by kernel_rfl) (by kernel_rfl) (by kernel_rfl) (fun _ _ _ h => h) (Or.inl ⟨by rfl, ?_⟩) hHeld ?_
            rotate_left
            · (intro w hSw; (try dsimp only at hSw); go_simp; all_goals (try with_reducible rfl))
            try simp only [Act.put, List.setIfInBounds_toArray, List.set_cons_zero, List.set_cons_succ]
            refine wpAnyH_take (i := 13) (oi := { dst := some 46, op := Op.fieldAddr 81 (Operand.tmp 45) 0, type := 0, pos := "some.go:22", after := #[{ on := 12, ground := Ground.data }], guard := none }) (v := ?_) rfl (by kernel_rfl) (by kernel_rfl) (by kernel_rfl) (fun _ _ _ h => h) (Or.inl ⟨by rfl, ?_⟩) hHeld ?_
            rotate_left
            · (intro w hSw; (try dsimp only at hSw); go_simp; all_goals (try with_reducible rfl))
            try simp only [Act.put, List.setIfInBounds_toArray, List.set_cons_zero, List.set_cons_succ]
            refine wpAnyH_take (i := 14) (oi := { dst := some 47, op := Op.load 39 (Operand.tmp 46), type := 39, pos := "some.go:22", after := #[{ on := 13, ground := Ground.data }], guard := none }) (v := ?_) rfl (by kernel_rfl) (by kernel_rfl) (by kernel_rfl) (fun _ _ _ h => h) (Or.inl ⟨by rfl, ?_⟩) hHeld ?_
            rotate_left
            · (intro w hSw; (try dsimp only at hSw); go_simp; all_goals (try with_reducible rfl))
            try simp only [Act.put, List.setIfInBounds_toArray, List.set_cons_zero, List.set_cons_succ]
            refine wpAnyH_take (i := 15) (oi := { dst := some 48, op := Op.call { callee := Callee.builtin Builtin.len, args := #[Operand.tmp 47], argTypes := #[39] }, type := 3, pos := "some.go:22", after := #[{ on := 14, ground := Ground.data }], guard := none }) (v := ?_) rfl (by kernel_rfl) (by kernel_rfl) (by kernel_rfl) (fun _ _ _ h => h) (Or.inl ⟨by rfl, ?_⟩) hHeld ?_
            rotate_left
            · (intro w hSw; (try dsimp only at hSw); go_simp; all_goals (try with_reducible rfl))
            try simp only [Act.put, List.setIfInBounds_toArray, List.set_cons_zero, List.set_cons_succ]
            refine wpAnyH_ready (rs := [10, 16]) (by kernel_rfl) (by simp) ?_
            refine AllReadyH.cons (o := { dst := some 43, op := Op.lookup 79 (Operand.tmp 41) (Operand.tmp 42) false, type := 102, pos := "some.go:22", after := #[{ on := 8, ground := Ground.data }, { on := 9, ground := Ground.data }], guard := none }) rfl (fun K hK => ?_) ?_
            · skip
              first | refine lookup_stepO (by rfl) _ _ (by rfl) _ _ _ (by rfl) (by rfl) LKA.out ?_ | refine lookup_stepO (by rfl) _ _ (by rfl) _ _ _ (by rfl) (by rfl) LKB.out ?_
              refine hK.out _ _ (by first | exact HC01.out _ HB1.out | exact HC01.out _ HB0.out | exact HX2A.out | exact HX3A.out | exact HX2B.out | exact HX3B.out) (fun hHeld => ?_)
              clear hK K
              try simp only [Act.put, List.setIfInBounds_toArray, List.set_cons_zero, List.set_cons_succ]
              refine wpAnyH_ready (rs := [16]) (by kernel_rfl) (by simp) ?_
              refine AllReadyH.cons (o := { dst := some 49, op := Op.buildSlice 102 1 #[(0, Operand.tmp 48)], type := 102, pos := "some.go:22", after := #[{ on := 15, ground := Ground.data }], guard := none }) rfl (fun K hK => ?_) AllReadyH.nil
              go_simp
              refine hK.out _ _ (by first | exact HC01.out _ HB1.out | exact HC01.out _ HB0.out | exact HX2A.out | exact HX3A.out | exact HX2B.out | exact HX3B.out) (fun hHeld => ?_)
              clear hK K
              try simp only [Act.put, List.setIfInBounds_toArray, List.set_cons_zero, List.set_cons_succ]
              refine wpAnyH_ready (rs := [17]) (by kernel_rfl) (by simp) ?_
              refine AllReadyH.cons (o := { dst := some 50, op := Op.call { callee := Callee.builtin Builtin.append, args := #[Operand.tmp 43, Operand.tmp 49], argTypes := #[102, 102] }, type := 102, pos := "some.go:22", after := #[{ on := 10, ground := Ground.data }, { on := 16, ground := Ground.data }], guard := none }) rfl (fun K hK => ?_) AllReadyH.nil
              first | refine append_stepO (by rfl) _ _ (by rfl) (by rfl) _ _ _ _ (by rfl) (by rfl) APA.out ?_ | refine append_stepO (by rfl) _ _ (by rfl) (by rfl) _ _ _ _ (by rfl) (by rfl) APB.out ?_
              refine hK.out _ _ (by first | exact HC01.out _ HB1.out | exact HC01.out _ HB0.out | exact HX2A.out | exact HX3A.out | exact HX2B.out | exact HX3B.out) (fun hHeld => ?_)
              clear hK K
              try simp only [Act.put, List.setIfInBounds_toArray, List.set_cons_zero, List.set_cons_succ]
              refine wpAnyH_ready (rs := [18]) (by kernel_rfl) (by simp) ?_
              refine AllReadyH.cons (o := { dst := none, op := Op.mapUpdate 79 (Operand.tmp 36) (Operand.tmp 37) (Operand.tmp 50), type := 0, pos := "some.go:22", after := #[{ on := 3, ground := Ground.data }, { on := 4, ground := Ground.data }, { on := 17, ground := Ground.data }, { on := 17, ground := Ground.chain }, { on := 0, ground := Ground.phase }, { on := 1, ground := Ground.phase }, { on := 2, ground := Ground.phase }, { on := 3, ground := Ground.phase }, { on := 4, ground := Ground.phase }, { on := 5, ground := Ground.phase }, { on := 6, ground := Ground.phase }, { on := 7, ground := Ground.phase }, { on := 8, ground := Ground.phase }, { on := 9, ground := Ground.phase }, { on := 10, ground := Ground.phase }, { on := 11, ground := Ground.phase }, { on := 12, ground := Ground.phase }, { on := 13, ground := Ground.phase }, { on := 14, ground := Ground.phase }, { on := 15, ground := Ground.phase }, { on := 16, ground := Ground.phase }, { on := 17, ground := Ground.phase }], guard := none }) rfl (fun K hK => ?_) AllReadyH.nil
              first | (refine mapUpdate_stepO (by rfl) _ _ _ (by rfl) _ _ _ (by rfl) (by rfl) (by rfl) UPA.out ?_; have HE := HEA) | (refine mapUpdate_stepO (by rfl) _ _ _ (by rfl) _ _ _ (by rfl) (by rfl) (by rfl) UPB.out ?_; have HE := HEB)
              refine hK.out _ _ (by first | exact HC01.out _ HB1.out | exact HC01.out _ HB0.out | exact HX2A.out | exact HX3A.out | exact HX2B.out | exact HX3B.out) (fun hHeld => ?_)
              clear hK K
              try simp only [Act.put]
              refine wpAnyH_done (by kernel_rfl) ?_ _
              obtain ⟨a3, n3, c3, Y9, D9, ap9, x9, y9, f9, s9, r9⟩ := HE.out
              have AP9 : Hid _ := ap9
              have SR9 : Hid (_ ∧ _) := ⟨s9, r9⟩
              clear HE HEA HEB ap9 s9 r9 LKA LKB APA APB UPA UPB HX2A HX2B HX3A HX3B HC01 HB1 HB0 hHeld
              go_wp2_with (at_builtin; refine append_runO (by rfl) _ _ (by rfl) (by rfl) _ _ _ _ (by rfl) (by rfl) AP9.out ?_)
              go_roundw
              case rel => exact ⟨k + 1, _, b, D9, n + 1, by omega, by go_num, by rw [HZ.out]; exact SR9.out.1, SR9.out.2⟩
              case measure => simp [intOf]; omega
            refine AllReadyH.cons (o := { dst := some 49, op := Op.buildSlice 102 1 #[(0, Operand.tmp 48)], type := 102, pos := "some.go:22", after := #[{ on := 15, ground := Ground.data }], guard := none }) rfl (fun K hK => ?_) AllReadyH.nil
            go_simp
            refine hK.out _ _ (by first | exact HC01.out _ HB1.out | exact HC01.out _ HB0.out | exact HX2A.out | exact HX3A.out | exact HX2B.out | exact HX3B.out) (fun hHeld => ?_)
            clear hK K
            try simp only [Act.put, List.setIfInBounds_toArray, List.set_cons_zero, List.set_cons_succ]
            refine wpAnyH_ready (rs := [10]) (by kernel_rfl) (by simp) ?_
            refine AllReadyH.cons (o := { dst := some 43, op := Op.lookup 79 (Operand.tmp 41) (Operand.tmp 42) false, type := 102, pos := "some.go:22", after := #[{ on := 8, ground := Ground.data }, { on := 9, ground := Ground.data }], guard := none }) rfl (fun K hK => ?_) AllReadyH.nil
            first | refine lookup_stepO (by rfl) _ _ (by rfl) _ _ _ (by rfl) (by rfl) LKA.out ?_ | refine lookup_stepO (by rfl) _ _ (by rfl) _ _ _ (by rfl) (by rfl) LKB.out ?_
            refine hK.out _ _ (by first | exact HC01.out _ HB1.out | exact HC01.out _ HB0.out | exact HX2A.out | exact HX3A.out | exact HX2B.out | exact HX3B.out) (fun hHeld => ?_)
            clear hK K
            try simp only [Act.put, List.setIfInBounds_toArray, List.set_cons_zero, List.set_cons_succ]
            refine wpAnyH_ready (rs := [17]) (by kernel_rfl) (by simp) ?_
            refine AllReadyH.cons (o := { dst := some 50, op := Op.call { callee := Callee.builtin Builtin.append, args := #[Operand.tmp 43, Operand.tmp 49], argTypes := #[102, 102] }, type := 102, pos := "some.go:22", after := #[{ on := 10, ground := Ground.data }, { on := 16, ground := Ground.data }], guard := none }) rfl (fun K hK => ?_) AllReadyH.nil
            first | refine append_stepO (by rfl) _ _ (by rfl) (by rfl) _ _ _ _ (by rfl) (by rfl) APA.out ?_ | refine append_stepO (by rfl) _ _ (by rfl) (by rfl) _ _ _ _ (by rfl) (by rfl) APB.out ?_
            refine hK.out _ _ (by first | exact HC01.out _ HB1.out | exact HC01.out _ HB0.out | exact HX2A.out | exact HX3A.out | exact HX2B.out | exact HX3B.out) (fun hHeld => ?_)
            clear hK K
            try simp only [Act.put, List.setIfInBounds_toArray, List.set_cons_zero, List.set_cons_succ]
            refine wpAnyH_ready (rs := [18]) (by kernel_rfl) (by simp) ?_
            refine AllReadyH.cons (o := { dst := none, op := Op.mapUpdate 79 (Operand.tmp 36) (Operand.tmp 37) (Operand.tmp 50), type := 0, pos := "some.go:22", after := #[{ on := 3, ground := Ground.data }, { on := 4, ground := Ground.data }, { on := 17, ground := Ground.data }, { on := 17, ground := Ground.chain }, { on := 0, ground := Ground.phase }, { on := 1, ground := Ground.phase }, { on := 2, ground := Ground.phase }, { on := 3, ground := Ground.phase }, { on := 4, ground := Ground.phase }, { on := 5, ground := Ground.phase }, { on := 6, ground := Ground.phase }, { on := 7, ground := Ground.phase }, { on := 8, ground := Ground.phase }, { on := 9, ground := Ground.phase }, { on := 10, ground := Ground.phase }, { on := 11, ground := Ground.phase }, { on := 12, ground := Ground.phase }, { on := 13, ground := Ground.phase }, { on := 14, ground := Ground.phase }, { on := 15, ground := Ground.phase }, { on := 16, ground := Ground.phase }, { on := 17, ground := Ground.phase }], guard := none }) rfl (fun K hK => ?_) AllReadyH.nil
            first | (refine mapUpdate_stepO (by rfl) _ _ _ (by rfl) _ _ _ (by rfl) (by rfl) (by rfl) UPA.out ?_; have HE := HEA) | (refine mapUpdate_stepO (by rfl) _ _ _ (by rfl) _ _ _ (by rfl) (by rfl) (by rfl) UPB.out ?_; have HE := HEB)
            refine hK.out _ _ (by first | exact HC01.out _ HB1.out | exact HC01.out _ HB0.out | exact HX2A.out | exact HX3A.out | exact HX2B.out | exact HX3B.out) (fun hHeld => ?_)
            clear hK K
            try simp only [Act.put]
            refine wpAnyH_done (by kernel_rfl) ?_ _
            obtain ⟨a3, n3, c3, Y9, D9, ap9, x9, y9, f9, s9, r9⟩ := HE.out
            have AP9 : Hid _ := ap9
            have SR9 : Hid (_ ∧ _) := ⟨s9, r9⟩
            clear HE HEA HEB ap9 s9 r9 LKA LKB APA APB UPA UPB HX2A HX2B HX3A HX3B HC01 HB1 HB0 hHeld
            go_wp2_with (at_builtin; refine append_runO (by rfl) _ _ (by rfl) (by rfl) _ _ _ _ (by rfl) (by rfl) AP9.out ?_)
            go_roundw
            case rel => exact ⟨k + 1, _, b, D9, n + 1, by omega, by go_num, by rw [HZ.out]; exact SR9.out.1, SR9.out.2⟩
            case measure => simp [intOf]; omega
      · have hkk : k = K.length := by omega
        have HZ : Hid (∃ lv b D n, SomeAt W p wr lv (K.foldl addV []) b D n) := by have := HS.out; rw [hkk, List.take_length] at this; exact ⟨_, _, _, _, this⟩
        clear hkk HS HR
        go_wp2
        first | go_end0 | refine bodyPost_ret (results_none rfl _ _ _) rfl ?_
        exact ⟨rfl, HZ.out⟩
  · have HS0 : Hid (SomeAt W p X lv L0 b D n) := hsome
    have HR0 : Hid (RowBy X b p lv a K) := hrb
    have c1 := hsome.c1
    have hnm := some_Map b
    clear hsome hrb
    go_enter Try.func42, Try.ntmps42
    go_wp2
    clear c1
    go_loopw [18] (fun i wr => ∃ (k : Nat) (lv : Value) (b : Nat) (D : DataW Unit) (n : Nat), k ≤ K.length ∧ i = .int .i64 k ∧ SomeAt W p wr lv ((K.take k).foldl addV L0) b D n ∧ RowBy wr b p lv a K) (fun i _ => K.length - (intOf i).toNat)
    case atStart => exact ⟨0, _, _, _, _, Nat.zero_le _, rfl, HS0.out, HR0.out⟩
    case round =>
      obtain ⟨k, lv, b, D, n, hkl, rfl, hs, hr⟩ := hrel
      have HS : Hid (SomeAt W p wr lv ((K.take k).foldl addV L0) b D n) := hs
      have HR : Hid (RowBy wr b p lv a K) := hr
      clear hs hr
      by_cases hlt : k < K.length
      · obtain ⟨rb, ro, rfl, hcl⟩ := HR.out.row k hlt
        have hcl := hcl 0 (by omega)
        have hym := getD_mem default hlt
        have HY : Hid (NdsAt W (K.getD k default).a (K.getD k default).cap (K.getD k default).ys) := HK.out _ hym
        have HGY : Hid (Markable (K.getD k default).nds) := HG.out _ hym
        have HF : Hid ((K.take (k + 1)).foldl addV L0 = addV ((K.take k).foldl addV L0) (K.getD k default)) := foldl_take addV default L0 K k hlt
        have hll := HL.out k
        clear hym
        generalize (K.take k).foldl addV L0 = L at *
        generalize K.getD k default = y at *
        obtain ⟨ys, ya, yc⟩ := y
        simp [lsC] at hcl
        have hi := is_nds HY.out 1 wr HS.out.bel
        have hbl : b < wr.heap.size := HS.out.map.lt
        simp only at HY HGY
        cases h1 : isB (ys.map (·.x)) 1 with
        | true =>
          rw [h1] at hi
          have HZ : Hid ((K.take (k + 1)).foldl addV L0 = L) := by show _ = _; rw [HF.out]; exact addV_skip1 h1
          clear h1
          go_wp2_with (go_at_call 38; refine hi.mono ?_; rintro e w' ⟨rfl, hw⟩; subst w')
          go_roundw
          case rel => exact ⟨k + 1, lv, b, D, n, by omega, by go_num, by rw [HZ.out]; exact HS.out, HR.out⟩
          case measure => simp [intOf]; omega
        | false =>
          have hh := has8_any W p wr lv L b D n HS.out ya yc ys HY.out HGY.out (by omega)
          rw [h1] at hi
          cases h2 : hasV L (ys.map (·.x)) with
          | true =>
            rw [h2] at hh
            have HZ : Hid ((K.take (k + 1)).foldl addV L0 = L) := by show _ = _; rw [HF.out]; exact addV_skip2 h2
            clear h1 h2
            go_wp2_with (go_at_call 38; refine hi.mono ?_; rintro e w' ⟨rfl, hw⟩; subst w')
            refine Calls.mono hh ?_
            rintro e W2 ⟨rfl, hb2⟩
            have HS2 : Hid (SomeAt W p W2 lv L b D n) := HS.out.below hb2
            have HR2 : Hid (RowBy W2 b p lv _ K) := HR.out.below hbl hb2
            clear hb2 hh hi
            go_wp2
            go_roundw
            case rel => exact ⟨k + 1, lv, b, D, n, by omega, by go_num, by rw [HZ.out]; exact HS2.out, HR2.out⟩
            case measure => simp [intOf]; omega
          | false =>
            rw [h2] at hh
            have HZ : Hid ((K.take (k + 1)).foldl addV L0 = L ++ [⟨ys, ya, yc⟩]) := by show _ = _; rw [HF.out]; exact addV_go h1 h2
            clear h1 h2
            have HMK : Hid (∀ Y, Below W.heap.size W Y → Calls Try.prog 64 #[.slice ya ys.length yc] Y fun e W' => e = .returned (.int .u64 (markL (ys.map (·.x)))) ∧ Below Y.heap.size Y W') := fun Y hY => by
              have hgy : Markable (ys.map (·.x)) := HGY.out
              have := mark_any ya yc (ys.map (·.x)) Y (HY.out.below hY).nodes hgy.1 hgy.2.1 hgy.2.2
              rw [List.length_map] at this; exact this
            go_wp2_with (go_at_call 38; refine hi.mono ?_; rintro e w' ⟨rfl, hw⟩; subst w')
            refine Calls.mono hh ?_
            rintro e W2 ⟨rfl, hb2⟩
            have HS2 : Hid (SomeAt W p W2 lv L b D n) := HS.out.below hb2
            have HR2 : Hid (RowBy W2 b p lv _ K) := HR.out.below hbl hb2
            have hbl2 : b < W2.heap.size := HS2.out.map.lt
            clear hb2 hh hi HS HR
            go_wp2_with fail
            refine Calls.mono (HMK.out W2 HS2.out.bel) ?_
            rintro e W3 ⟨rfl, hb3⟩
            have HS3 : Hid (SomeAt W p W3 lv L b D n) := HS2.out.below hb3
            have HR3 : Hid (RowBy W3 b p lv _ K) := HR2.out.below hbl2 hb3
            clear hb3 HS2 HR2 HMK
            have hbl3 : b < W3.heap.size := HS3.out.map.lt
            have hlen : (L.map LsV.nds).length = L.length := List.length_map _
            have B0 : Below W3.heap.size W3 W3.drew := (Below.refl _ _).drew
            have B1 : Below W3.heap.size W3 (W3.drew.alloc (.cells #[.int .i64 L.length] 3)) := B0.alloc (Nat.le_refl _) _
            have B2 : Below W3.drew.heap.size W3.drew (W3.drew.alloc (.cells #[.int .i64 L.length] 3)) := (Below.refl _ _).alloc (Nat.le_refl _) _
            have hcell : (W3.drew.alloc (.cells #[.int .i64 L.length] 3)).cell? ⟨W3.heap.size, 0, none⟩ = some (.int .i64 ((L.map LsV.nds).length : Nat)) := by rw [hlen]; simp [go_sem]
            have hlvlt : ∀ g, lv.ownBlock = some g → g < W3.heap.size := fun g hg => (Own.lt HS3.out.own g hg).2
            obtain ⟨a1, n1, c1, a2, n2, c2, X2, X3, D1, lkA, apA, upA, mA, SA, mdA, mdA2, geA, noA⟩ := (HS3.out.map.below B0).push (ys.map (·.x)) (by rw [hlen]; omega) B2 hlvlt W3.heap.size hcell
            obtain ⟨b1, k1, e1, b2, k2, e2, Z2, Z3, D2, lkB, apB, upB, mB, SB, mdB, mdB2, geB, noB⟩ := (HS3.out.map.below B1).push (ys.map (·.x)) (by rw [hlen]; omega) (Below.refl _ _) (fun g hg => by have := hlvlt g hg; simp; omega) W3.heap.size hcell
            have R0 := HR3.out.below hbl3 B0
            have R1 := HR3.out.below hbl3 B1
            have S1 := HS3.out.below B1
            obtain ⟨oA1, oA2⟩ := noA _ R0.sh R0.lt R0.nb
            obtain ⟨oB1, oB2⟩ := noB _ R1.sh R1.lt R1.nb
            have lA := (noA _ (HS3.out.map.below B0).sh (fun g hg => hlvlt g hg) (HS3.out.map.ne)).2
            have lB := (noB _ (HS3.out.map.below B1).sh (fun g hg => by have := hlvlt g hg; simp; omega) (HS3.out.map.ne)).2
            obtain ⟨a3, n3, c3, Y, apC, yc0, ycf, sC, rC⟩ := S1.push R1 ⟨ys, ya, yc⟩ HY.out HGY.out mA SA mdA geA lA oA1 oA2 (by omega)
            obtain ⟨b3, k3, e3, V, apD, vc0, vcf, sD, rD⟩ := S1.push R1 ⟨ys, ya, yc⟩ HY.out HGY.out mB SB mdB geB lB oB1 oB2 (by omega)
            have pA : ∀ i ∈ SA, p ≠ i := fun i hi e => by have := geA i hi; have := HS3.out.pb; omega
            have pB : ∀ i ∈ SB, p ≠ i := fun i hi e => by have := geB i hi; have := HS3.out.pb; omega
            have xc0 : X3.cell? ⟨p, 0, none⟩ = some lv := mdA.cell S1.c0 (fun q => pA p q rfl)
            have zc0 : Z3.cell? ⟨p, 0, none⟩ = some lv := mdB.cell S1.c0 (fun q => pB p q rfl)
            obtain ⟨la, lc, rfl, _, _, _⟩ := HS3.out.own.sl lsC_len default
            have HEA : Hid (∃ a3 n3 c3 Y D', (Builtin.append_ #[39, 39] 39 #[.slice la L.length lc, .slice (some ⟨X3.heap.size, 0, none⟩) 1 1]).run Try.prog (X3.alloc (.cells #[.slice ya ys.length yc] 28)) = .ok (.slice a3 n3 c3) Y ∧ X3.cell? ⟨p, 0, none⟩ = some (.slice la L.length lc) ∧ Y.cell? ⟨p, 0, none⟩ = some (.slice la L.length lc) ∧ Y.frozen? ⟨p, 0, none⟩ = false ∧ SomeAt W p (Y.setCell ⟨p, 0, none⟩ (.slice a3 n3 c3)) (.slice a3 n3 c3) (L ++ [⟨ys, ya, yc⟩]) b D' (n + 1) ∧ RowBy (Y.setCell ⟨p, 0, none⟩ (.slice a3 n3 c3)) b p (.slice a3 n3 c3) (some ⟨rb, ro, none⟩) K) := ⟨a3, n3, c3, Y, D1, apC, xc0, yc0, ycf, sC, rC⟩
            have HEB : Hid (∃ a3 n3 c3 Y D', (Builtin.append_ #[39, 39] 39 #[.slice la L.length lc, .slice (some ⟨Z3.heap.size, 0, none⟩) 1 1]).run Try.prog (Z3.alloc (.cells #[.slice ya ys.length yc] 28)) = .ok (.slice a3 n3 c3) Y ∧ Z3.cell? ⟨p, 0, none⟩ = some (.slice la L.length lc) ∧ Y.cell? ⟨p, 0, none⟩ = some (.slice la L.length lc) ∧ Y.frozen? ⟨p, 0, none⟩ = false ∧ SomeAt W p (Y.setCell ⟨p, 0, none⟩ (.slice a3 n3 c3)) (.slice a3 n3 c3) (L ++ [⟨ys, ya, yc⟩]) b D' (n + 1) ∧ RowBy (Y.setCell ⟨p, 0, none⟩ (.slice a3 n3 c3)) b p (.slice a3 n3 c3) (some ⟨rb, ro, none⟩) K) := ⟨b3, k3, e3, V, D2, apD, zc0, vc0, vcf, sD, rD⟩
            have apA2 : (Builtin.append_ #[102, 102] 102 #[.slice a1 n1 c1, .slice (some ⟨W3.heap.size, 0, none⟩) 1 1]).run Try.prog (W3.drew.alloc (.cells #[.int .i64 L.length] 3)) = .ok (.slice a2 n2 c2) X2 := apA
            have LKA : Hid _ := lkA
            have LKB : Hid _ := lkB
            have APA : Hid _ := apA2
            have APB : Hid _ := apB
            have UPA : Hid _ := upA
            have UPB : Hid _ := upB
            have HC01 : Hid (∀ Y, Below W3.heap.size W3 Y → Y.cell? ⟨p, 0, none⟩ = some (.slice la L.length lc) ∧ Y.cell? ⟨p, 1, none⟩ = some (.map (some b))) := fun Y hY => ⟨(HS3.out.below hY).c0, (HS3.out.below hY).c1⟩
            have HB1 : Hid (Below W3.heap.size W3 (W3.drew.alloc (.cells #[.int .i64 L.length] 3))) := B1
            have HB0 : Hid (Below W3.heap.size W3 W3.drew) := B0
            have HX2A : Hid (X2.cell? ⟨p, 0, none⟩ = some (.slice la L.length lc) ∧ X2.cell? ⟨p, 1, none⟩ = some (.map (some b))) := ⟨mdA2.cell S1.c0 (fun q => pA p q rfl), mdA2.cell S1.c1 (fun q => pA p q rfl)⟩
            have HX2B : Hid (Z2.cell? ⟨p, 0, none⟩ = some (.slice la L.length lc) ∧ Z2.cell? ⟨p, 1, none⟩ = some (.map (some b))) := ⟨mdB2.cell S1.c0 (fun q => pB p q rfl), mdB2.cell S1.c1 (fun q => pB p q rfl)⟩
            have HX3A : Hid (X3.cell? ⟨p, 0, none⟩ = some (.slice la L.length lc) ∧ X3.cell? ⟨p, 1, none⟩ = some (.map (some b))) := ⟨mdA.cell S1.c0 (fun q => pA p q rfl), mdA.cell S1.c1 (fun q => pA p q rfl)⟩
            have HX3B : Hid (Z3.cell? ⟨p, 0, none⟩ = some (.slice la L.length lc) ∧ Z3.cell? ⟨p, 1, none⟩ = some (.map (some b))) := ⟨mdB.cell S1.c0 (fun q => pB p q rfl), mdB.cell S1.c1 (fun q => pB p q rfl)⟩
            clear lkA lkB apA apA2 apB upA upB mA mB mdA mdB mdA2 mdB2 geA geB noA noB R0 R1 S1 oA1 oA2 oB1 oB2 lA lB apC apD sC sD rC rD pA pB xc0 zc0 yc0 vc0 ycf vcf B0 B1 B2 hcell hlvlt hlen HR3
            go_wp2_with fail
            refine wp_region_held_drew (S := fun W' => W'.cell? ⟨p, 0, none⟩ = some (.slice la L.length lc) ∧ W'.cell? ⟨p, 1, none⟩ = some (.map (some b))) (by kernel_rfl) (HC01.out _ HB0.out) (fun hHeld => ?_)
            refine wpAnyH_take (i := 0) (oi := { dst := some 33, op := Op.move (Operand.tmp 0), type := 99, pos := "some.go:22", after := #[], guard := none }) (v := ?_) rfl (by kernel_rfl) (by kernel_rfl) (by kernel_rfl) (fun _ _ _ h => h) (Or.inl ⟨by rfl, ?_⟩) hHeld ?_
            rotate_left
            · (intro w hSw; (try dsimp only at hSw); go_simp; all_goals (try with_reducible rfl))
            try simp only [Act.put, List.setIfInBounds_toArray, List.set_cons_zero, List.set_cons_succ]
            refine wpAnyH_take (i := 1) (oi := { dst := some 34, op := Op.nilCheck (Operand.tmp 33), type := 0, pos := "some.go:22", after := #[{ on := 0, ground := Ground.data }], guard := none }) (v := ?_) rfl (by kernel_rfl) (by kernel_rfl) (by kernel_rfl) (fun _ _ _ h => h) (Or.inl ⟨by rfl, ?_⟩) hHeld ?_
            rotate_left
            · (intro w hSw; (try dsimp only at hSw); go_simp; all_goals (try with_reducible rfl))
            try simp only [Act.put, List.setIfInBounds_toArray, List.set_cons_zero, List.set_cons_succ]
            refine wpAnyH_take (i := 2) (oi := { dst := some 35, op := Op.fieldAddr 81 (Operand.tmp 34) 1, type := 0, pos := "some.go:22", after := #[{ on := 1, ground := Ground.data }], guard := none }) (v := ?_) rfl (by kernel_rfl) (by kernel_rfl) (by kernel_rfl) (fun _ _ _ h => h) (Or.inl ⟨by rfl, ?_⟩) hHeld ?_
            rotate_left
            · (intro w hSw; (try dsimp only at hSw); go_simp; all_goals (try with_reducible rfl))
            try simp only [Act.put, List.setIfInBounds_toArray, List.set_cons_zero, List.set_cons_succ]
            refine wpAnyH_take (i := 3) (oi := { dst := some 36, op := Op.load 79 (Operand.tmp 35), type := 79, pos := "some.go:22", after := #[{ on := 2, ground := Ground.data }], guard := none }) (v := ?_) rfl (by kernel_rfl) (by kernel_rfl) (by kernel_rfl) (fun _ _ _ h => h) (Or.inl ⟨by rfl, ?_⟩) hHeld ?_
            rotate_left
            · (intro w hSw; (try dsimp only at hSw); go_simp; all_goals (try with_reducible rfl))
            try simp only [Act.put, List.setIfInBounds_toArray, List.set_cons_zero, List.set_cons_succ]
            refine wpAnyH_take (i := 4) (oi := { dst := some 37, op := Op.move (Operand.tmp 6), type := 100, pos := "some.go:22", after := #[], guard := none }) (v := ?_) rfl (by kernel_rfl) (by kernel_rfl) (by kernel_rfl) (fun _ _ _ h => h) (Or.inl ⟨by rfl, ?_⟩) hHeld ?_
            rotate_left
            · (intro w hSw; (try dsimp only at hSw); go_simp; all_goals (try with_reducible rfl))
            try simp only [Act.put, List.setIfInBounds_toArray, List.set_cons_zero, List.set_cons_succ]
            refine wpAnyH_take (i := 5) (oi := { dst := some 38, op := Op.move (Operand.tmp 0), type := 99, pos := "some.go:22", after := #[], guard := none }) (v := ?_) rfl (by kernel_rfl) (by kernel_rfl) (by kernel_rfl) (fun _ _ _ h => h) (Or.inl ⟨by rfl, ?_⟩) hHeld ?_
            rotate_left
            · (intro w hSw; (try dsimp only at hSw); go_simp; all_goals (try with_reducible rfl))
            try simp only [Act.put, List.setIfInBounds_toArray, List.set_cons_zero, List.set_cons_succ]
            refine wpAnyH_take (i := 6) (oi := { dst := some 39, op := Op.nilCheck (Operand.tmp 38), type := 0, pos := "some.go:22", after := #[{ on := 5, ground := Ground.data }], guard := none }) (v := ?_) rfl (by kernel_rfl) (by kernel_rfl) (by kernel_rfl) (fun _ _ _ h => h) (Or.inl ⟨by rfl, ?_⟩) hHeld ?_
            rotate_left
            · (intro w hSw; (try dsimp only at hSw); go_simp; all_goals (try with_reducible rfl))
            try simp only [Act.put, List.setIfInBounds_toArray, List.set_cons_zero, List.set_cons_succ]
            refine wpAnyH_take (i := 7) (oi := { dst := some 40, op := Op.fieldAddr 81 (Operand.tmp 39) 1, type := 0, pos := "some.go:22", after := #[{ on := 6, ground := Ground.data }], guard := none }) (v := ?_) rfl (by kernel_rfl) (by kernel_rfl) (by kernel_rfl) (fun _ _ _ h => h) (Or.inl ⟨by rfl, ?_⟩) hHeld ?_
            rotate_left
            · (intro w hSw; (try dsimp only at hSw); go_simp; all_goals (try with_reducible rfl))
            try simp only [Act.put, List.setIfInBounds_toArray, List.set_cons_zero, List.set_cons_succ]
            refine wpAnyH_take (i := 8) (oi := { dst := some 41, op := Op.load 79 (Operand.tmp 40), type := 79, pos := "some.go:22", after := #[{ on := 7, ground := Ground.data }], guard := none }) (v := ?_) rfl (by kernel_rfl) (by kernel_rfl) (by kernel_rfl) (fun _ _ _ h => h) (Or.inl ⟨by rfl, ?_⟩) hHeld ?_
            rotate_left
            · (intro w hSw; (try dsimp only at hSw); go_simp; all_goals (try with_reducible rfl))
            try simp only [Act.put, List.setIfInBounds_toArray, List.set_cons_zero, List.set_cons_succ]
            refine wpAnyH_take (i := 9) (oi := { dst := some 42, op := Op.move (Operand.tmp 6), type := 100, pos := "some.go:22", after := #[], guard := none }) (v := ?_) rfl (by kernel_rfl) (by kernel_rfl) (by kernel_rfl) (fun _ _ _ h => h) (Or.inl ⟨by rfl, ?_⟩) hHeld ?_
            rotate_left
            · (intro w hSw; (try dsimp only at hSw); go_simp; all_goals (try with_reducible rfl))
            try simp only [Act.put, List.setIfInBounds_toArray, List.set_cons_zero, List.set_cons_succ]
            refine wpAnyH_take (i := 11) (oi := { dst := some 44, op := Op.move (Operand.tmp 0), type := 99, pos := "some.go:22", after := #[], guard := none }) (v := ?_) rfl (by kernel_rfl) (by kernel_rfl) (by kernel_rfl) (fun _ _ _ h => h) (Or.inl ⟨by rfl, ?_⟩) hHeld ?_
            rotate_left
            · (intro w hSw; (try dsimp only at hSw); go_simp; all_goals (try with_reducible rfl))
            try simp only [Act.put, List.setIfInBounds_toArray, List.set_cons_zero, List.set_cons_succ]
            refine wpAnyH_take (i := 12) (oi := { dst := some 45, op := Op.nilCheck (Operand.tmp 44), type := 0, pos := "some.go:22", after := #[{ on := 11, ground := Ground.data }], guard := none }) (v := ?_) rfl (by kernel_rfl) (by kernel_rfl) (by kernel_rfl) (fun _ _ _ h => h) (Or.inl ⟨by rfl, ?_⟩) hHeld ?_
            rotate_left
            · (intro w hSw; (try dsimp only at hSw); go_simp; all_goals (try with_reducible rfl))
            try simp only [Act.put, List.setIfInBounds_toArray, List.set_cons_zero, List.set_cons_succ]
            refine wpAnyH_take (i := 13) (oi := { dst := some 46, op := Op.fieldAddr 81 (Operand.tmp 45) 0, type := 0, pos := "some.go:22", after := #[{ on := 12, ground := Ground.data }], guard := none }) (v := ?_) rfl (by kernel_rfl) (by kernel_rfl) (by kernel_rfl) (fun _ _ _ h => h) (Or.inl ⟨by rfl, ?_⟩) hHeld ?_
            rotate_left
            · (intro w hSw; (try dsimp only at hSw); go_simp; all_goals (try with_reducible rfl))
            try simp only [Act.put, List.setIfInBounds_toArray, List.set_cons_zero, List.set_cons_succ]
            refine wpAnyH_take (i := 14) (oi := { dst := some 47, op := Op.load 39 (Operand.tmp 46), type := 39, pos := "some.go:22", after := #[{ on := 13, ground := Ground.data }], guard := none }) (v := ?_) rfl (by kernel_rfl) (by kernel_rfl) (by kernel_rfl) (fun _ _ _ h => h) (Or.inl ⟨by rfl, ?_⟩) hHeld ?_
            rotate_left
            · (intro w hSw; (try dsimp only at hSw); go_simp; all_goals (try with_reducible rfl))
            try simp only [Act.put, List.setIfInBounds_toArray, List.set_cons_zero, List.set_cons_succ]
            refine wpAnyH_take (i := 15) (oi := { dst := some 48, op := Op.call { callee := Callee.builtin Builtin.len, args := #[Operand.tmp 47], argTypes := #[39] }, type := 3, pos := "some.go:22", after := #[{ on := 14, ground := Ground.data }], guard := none }) (v := ?_) rfl (by kernel_rfl) (by kernel_rfl) (by kernel_rfl) (fun _ _ _ h => h) (Or.inl ⟨by rfl, ?_⟩) hHeld ?_
            rotate_left
            · (intro w hSw; (try dsimp only at hSw); go_simp; all_goals (try with_reducible rfl))
            try simp only [Act.put, List.setIfInBounds_toArray, List.set_cons_zero, List.set_cons_succ]
            refine wpAnyH_ready (rs := [10, 16]) (by kernel_rfl) (by simp) ?_
            refine AllReadyH.cons (o := { dst := some 43, op := Op.lookup 79 (Operand.tmp 41) (Operand.tmp 42) false, type := 102, pos := "some.go:22", after := #[{ on := 8, ground := Ground.data }, { on := 9, ground := Ground.data }], guard := none }) rfl (fun K hK => ?_) ?_
            · skip
              first | refine lookup_stepO (by rfl) _ _ (by rfl) _ _ _ (by rfl) (by rfl) LKA.out ?_ | refine lookup_stepO (by rfl) _ _ (by rfl) _ _ _ (by rfl) (by rfl) LKB.out ?_
              refine hK.out _ _ (by first | exact HC01.out _ HB1.out | exact HC01.out _ HB0.out | exact HX2A.out | exact HX3A.out | exact HX2B.out | exact HX3B.out) (fun hHeld => ?_)
              clear hK K
              try simp only [Act.put, List.setIfInBounds_toArray, List.set_cons_zero, List.set_cons_succ]
              refine wpAnyH_ready (rs := [16]) (by kernel_rfl) (by simp) ?_
              refine AllReadyH.cons (o := { dst := some 49, op := Op.buildSlice 102 1 #[(0, Operand.tmp 48)], type := 102, pos := "some.go:22", after := #[{ on := 15, ground := Ground.data }], guard := none }) rfl (fun K hK => ?_) AllReadyH.nil
              go_simp
              refine hK.out _ _ (by first | exact HC01.out _ HB1.out | exact HC01.out _ HB0.out | exact HX2A.out | exact HX3A.out | exact HX2B.out | exact HX3B.out) (fun hHeld => ?_)
              clear hK K
              try simp only [Act.put, List.setIfInBounds_toArray, List.set_cons_zero, List.set_cons_succ]
              refine wpAnyH_ready (rs := [17]) (by kernel_rfl) (by simp) ?_
              refine AllReadyH.cons (o := { dst := some 50, op := Op.call { callee := Callee.builtin Builtin.append, args := #[Operand.tmp 43, Operand.tmp 49], argTypes := #[102, 102] }, type := 102, pos := "some.go:22", after := #[{ on := 10, ground := Ground.data }, { on := 16, ground := Ground.data }], guard := none }) rfl (fun K hK => ?_) AllReadyH.nil
              first | refine append_stepO (by rfl) _ _ (by rfl) (by rfl) _ _ _ _ (by rfl) (by rfl) APA.out ?_ | refine append_stepO (by rfl) _ _ (by rfl) (by rfl) _ _ _ _ (by rfl) (by rfl) APB.out ?_
              refine hK.out _ _ (by first | exact HC01.out _ HB1.out | exact HC01.out _ HB0.out | exact HX2A.out | exact HX3A.out | exact HX2B.out | exact HX3B.out) (fun hHeld => ?_)
              clear hK K
              try simp only [Act.put, List.setIfInBounds_toArray, List.set_cons_zero, List.set_cons_succ]
              refine wpAnyH_ready (rs := [18]) (by kernel_rfl) (by simp) ?_
              refine AllReadyH.cons (o := { dst := none, op := Op.mapUpdate 79 (Operand.tmp 36) (Operand.tmp 37) (Operand.tmp 50), type := 0, pos := "some.go:22", after := #[{ on := 3, ground := Ground.data }, { on := 4, ground := Ground.data }, { on := 17, ground := Ground.data }, { on := 17, ground := Ground.chain }, { on := 0, ground := Ground.phase }, { on := 1, ground := Ground.phase }, { on := 2, ground := Ground.phase }, { on := 3, ground := Ground.phase }, { on := 4, ground := Ground.phase }, { on := 5, ground := Ground.phase }, { on := 6, ground := Ground.phase }, { on := 7, ground := Ground.phase }, { on := 8, ground := Ground.phase }, { on := 9, ground := Ground.phase }, { on := 10, ground := Ground.phase }, { on := 11, ground := Ground.phase }, { on := 12, ground := Ground.phase }, { on := 13, ground := Ground.phase }, { on := 14, ground := Ground.phase }, { on := 15, ground := Ground.phase }, { on := 16, ground := Ground.phase }, { on := 17, ground := Ground.phase }], guard := none }) rfl (fun K hK => ?_) AllReadyH.nil
              first | (refine mapUpdate_stepO (by rfl) _ _ _ (by rfl) _ _ _ (by rfl) (by rfl) (by rfl) UPA.out ?_; have HE := HEA) | (refine mapUpdate_stepO (by rfl) _ _ _ (by rfl) _ _ _ (by rfl) (by rfl) (by rfl) UPB.out ?_; have HE := HEB)
              refine hK.out _ _ (by first | exact HC01.out _ HB1.out | exact HC01.out _ HB0.out | exact HX2A.out | exact HX3A.out | exact HX2B.out | exact HX3B.out) (fun hHeld => ?_)
              clear hK K
              try simp only [Act.put]
              refine wpAnyH_done (by kernel_rfl) ?_ _
              obtain ⟨a3, n3, c3, Y9, D9, ap9, x9, y9, f9, s9, r9⟩ := HE.out
              have AP9 : Hid _ := ap9
              have SR9 : Hid (_ ∧ _) := ⟨s9, r9⟩
              clear HE HEA HEB ap9 s9 r9 LKA LKB APA APB UPA UPB HX2A HX2B HX3A HX3B HC01 HB1 HB0 hHeld
              go_wp2_with (at_builtin; refine append_runO (by rfl) _ _ (by rfl) (by rfl) _ _ _ _ (by rfl) (by rfl) AP9.out ?_)
              go_roundw
              case rel => exact ⟨k + 1, _, b, D9, n + 1, by omega, by go_num, by rw [HZ.out]; exact SR9.out.1, SR9.out.2⟩
              case measure => simp [intOf]; omega
            refine AllReadyH.cons (o := { dst := some 49, op := Op.buildSlice 102 1 #[(0, Operand.tmp 48)], type := 102, pos := "some.go:22", after := #[{ on := 15, ground := Ground.data }], guard := none }) rfl (fun K hK => ?_) AllReadyH.nil
            go_simp
            refine hK.out _ _ (by first | exact HC01.out _ HB1.out | exact HC01.out _ HB0.out | exact HX2A.out | exact HX3A.out | exact HX2B.out | exact HX3B.out) (fun hHeld => ?_)
            clear hK K
            try simp only [Act.put, List.setIfInBounds_toArray, List.set_cons_zero, List.set_cons_succ]
            refine wpAnyH_ready (rs := [10]) (by kernel_rfl) (by simp) ?_
            refine AllReadyH.cons (o := { dst := some 43, op := Op.lookup 79 (Operand.tmp 41) (Operand.tmp 42) false, type := 102, pos := "some.go:22", after := #[{ on := 8, ground := Ground.data }, { on := 9, ground := Ground.data }], guard := none }) rfl (fun K hK => ?_) AllReadyH.nil
            first | refine lookup_stepO (by rfl) _ _ (by rfl) _ _ _ (by rfl) (by rfl) LKA.out ?_ | refine lookup_stepO (by rfl) _ _ (by rfl) _ _ _ (by rfl) (by rfl) LKB.out ?_
            refine hK.out _ _ (by first | exact HC01.out _ HB1.out | exact HC01.out _ HB0.out | exact HX2A.out | exact HX3A.out | exact HX2B.out | exact HX3B.out) (fun hHeld => ?_)
            clear hK K
            try simp only [Act.put, List.setIfInBounds_toArray, List.set_cons_zero, List.set_cons_succ]
            refine wpAnyH_ready (rs := [17]) (by kernel_rfl) (by simp) ?_
            refine AllReadyH.cons (o := { dst := some 50, op := Op.call { callee := Callee.builtin Builtin.append, args := #[Operand.tmp 43, Operand.tmp 49], argTypes := #[102, 102] }, type := 102, pos := "some.go:22", after := #[{ on := 10, ground := Ground.data }, { on := 16, ground := Ground.data }], guard := none }) rfl (fun K hK => ?_) AllReadyH.nil
            first | refine append_stepO (by rfl) _ _ (by rfl) (by rfl) _ _ _ _ (by rfl) (by rfl) APA.out ?_ | refine append_stepO (by rfl) _ _ (by rfl) (by rfl) _ _ _ _ (by rfl) (by rfl) APB.out ?_
            refine hK.out _ _ (by first | exact HC01.out _ HB1.out | exact HC01.out _ HB0.out | exact HX2A.out | exact HX3A.out | exact HX2B.out | exact HX3B.out) (fun hHeld => ?_)
            clear hK K
            try simp only [Act.put, List.setIfInBounds_toArray, List.set_cons_zero, List.set_cons_succ]
            refine wpAnyH_ready (rs := [18]) (by kernel_rfl) (by simp) ?_
            refine AllReadyH.cons (o := { dst := none, op := Op.mapUpdate 79 (Operand.tmp 36) (Operand.tmp 37) (Operand.tmp 50), type := 0, pos := "some.go:22", after := #[{ on := 3, ground := Ground.data }, { on := 4, ground := Ground.data }, { on := 17, ground := Ground.data }, { on := 17, ground := Ground.chain }, { on := 0, ground := Ground.phase }, { on := 1, ground := Ground.phase }, { on := 2, ground := Ground.phase }, { on := 3, ground := Ground.phase }, { on := 4, ground := Ground.phase }, { on := 5, ground := Ground.phase }, { on := 6, ground := Ground.phase }, { on := 7, ground := Ground.phase }, { on := 8, ground := Ground.phase }, { on := 9, ground := Ground.phase }, { on := 10, ground := Ground.phase }, { on := 11, ground := Ground.phase }, { on := 12, ground := Ground.phase }, { on := 13, ground := Ground.phase }, { on := 14, ground := Ground.phase }, { on := 15, ground := Ground.phase }, { on := 16, ground := Ground.phase }, { on := 17, ground := Ground.phase }], guard := none }) rfl (fun K hK => ?_) AllReadyH.nil
            first | (refine mapUpdate_stepO (by rfl) _ _ _ (by rfl) _ _ _ (by rfl) (by rfl) (by rfl) UPA.out ?_; have HE := HEA) | (refine mapUpdate_stepO (by rfl) _ _ _ (by rfl) _ _ _ (by rfl) (by rfl) (by rfl) UPB.out ?_; have HE := HEB)
            refine hK.out _ _ (by first | exact HC01.out _ HB1.out | exact HC01.out _ HB0.out | exact HX2A.out | exact HX3A.out | exact HX2B.out | exact HX3B.out) (fun hHeld => ?_)
            clear hK K
            try simp only [Act.put]
            refine wpAnyH_done (by kernel_rfl) ?_ _
            obtain ⟨a3, n3, c3, Y9, D9, ap9, x9, y9, f9, s9, r9⟩ := HE.out
            have AP9 : Hid _ := ap9
            have SR9 : Hid (_ ∧ _) := ⟨s9, r9⟩
            clear HE HEA HEB ap9 s9 r9 LKA LKB APA APB UPA UPB HX2A HX2B HX3A HX3B HC01 HB1 HB0 hHeld
            go_wp2_with (at_builtin; refine append_runO (by rfl) _ _ (by rfl) (by rfl) _ _ _ _ (by rfl) (by rfl) AP9.out ?_)
            go_roundw
            case rel => exact ⟨k + 1, _, b, D9, n + 1, by omega, by go_num, by rw [HZ.out]; exact SR9.out.1, SR9.out.2⟩
            case measure => simp [intOf]; omega
      · have hkk : k = K.length := by omega
        have HZ : Hid (∃ lv b D n, SomeAt W p wr lv (K.foldl addV L0) b D n) := by have := HS.out; rw [hkk, List.take_length] at this; exact ⟨_, _, _, _, this⟩
        clear hkk HS HR
        go_wp2
        first | go_end0 | refine bodyPost_ret (results_none rfl _ _ _) rfl ?_
        exact ⟨rfl, HZ.out⟩
end Go.Proofs.Ytpgdkgilmcipkaa
namespace Go.Proofs.Ytpgdkgilmcipkaa
open Go.RowKit Go.Maps Go.ChangeShapes
set_option linter.unusedVariables false
set_option maxRecDepth 100000

/-- Nodes of few terms with short names. -/
def GoodN (l : List Nd) : Prop := ∀ x ∈ l, x.terms.length ≤ 1099511627776 ∧ ∀ t ∈ x.terms, t.name.size ≤ 1099511627776
theorem GoodN.mark {l : List Nd} (h : GoodN l) (hl : l.length ≤ 4611686018427387904) : Markable l := ⟨hl, fun x hx => by have := (h x hx).1; omega, fun x hx => (h x hx).2⟩
theorem GoodN.sub {l m : List Nd} (h : GoodN l) (hs : ∀ x ∈ m, x ∈ l) : GoodN m := fun x hx => h x (hs x hx)
/-- One formula more, or none: where it is false or there. -/
def addN (M : List (List Nd)) (x : List Nd) : List (List Nd) := if isB x 1 || M.any (fun y => sameB y x) then M else M ++ [x]
theorem addV_nds (L : List LsV) (y : LsV) : (addV L y).map LsV.nds = addN (L.map LsV.nds) y.nds := by
  unfold addV addN hasV
  rw [List.any_map]
  have e : ((fun y_1 => sameB y_1 y.nds) ∘ LsV.nds) = fun y_1 : LsV => sameB y_1.nds y.nds := rfl
  rw [e]
  split <;> simp
theorem foldV_nds (K : List LsV) : ∀ L : List LsV, (K.foldl addV L).map LsV.nds = (K.map LsV.nds).foldl addN (L.map LsV.nds) := by
  induction K with
  | nil => intro L; rfl
  | cons y K ih => intro L; simp only [List.foldl_cons, List.map_cons]; rw [ih, addV_nds]
def surelyN (M : List (List Nd)) : Bool := M.any fun x => isB x 0 || (isB x 3 && M.any (fun y => sameB y (x.drop 1)))
/-- The formulas of which an or is made. -/
def flatO (l : List (List Nd)) : List (List Nd) := l.flatMap fun x => if isB x 5 then splitL (x.drop 1) else [x]
def someN (l : List (List Nd)) : List (List Nd) := (flatO l).foldl addN []
def orL (l : List (List Nd)) : List Nd := if surelyN (someN l) then [tt] else if (someN l).length = 0 then [ff] else if (someN l).length = 1 then (someN l).flatten else mkL 5 0 0 (someN l)
def andL (l : List (List Nd)) : List Nd := notL (orL (l.map notL))
theorem flatO_take (l : List (List Nd)) (k : Nat) (hk : k < l.length) : flatO (l.take (k + 1)) = flatO (l.take k) ++ (if isB (l.getD k []) 5 then splitL ((l.getD k []).drop 1) else [l.getD k []]) := by
  rw [take_getD [] l k hk]; unfold flatO; simp
theorem splitL_len : ∀ l : List Nd, (splitL l).length ≤ l.length := by
  intro l
  unfold splitL
  have : ∀ (f : Nat) (l : List Nd), (splitF f l).length ≤ f := by
    intro f
    induction f with
    | zero => intro l; simp [splitF]
    | succ f ih =>
      intro l
      cases l with
      | nil => simp [splitF]
      | cons x l => simp only [splitF, List.length_cons]; have := ih ((x :: l).drop (scanW 1 (x :: l)).1); omega
  exact this _ _
theorem splitL_flat : ∀ l : List Nd, (splitL l).flatten = l := by
  intro l
  unfold splitL
  have : ∀ (f : Nat) (l : List Nd), l.length ≤ f → (splitF f l).flatten = l := by
    intro f
    induction f with
    | zero => intro l h; rw [List.length_eq_zero_iff.1 (Nat.le_zero.1 h)]; rfl
    | succ f ih =>
      intro l h
      cases l with
      | nil => rfl
      | cons x l =>
        have hp := scanW_pos 1 x l
        simp only [splitF, List.flatten_cons]
        rw [ih _ (by rw [List.length_drop]; simp only [List.length_cons] at h ⊢; omega), List.take_append_drop]
  exact this _ _ (Nat.le_refl _)
theorem splitL_sub {l p : List Nd} (h : p ∈ splitL l) : ∀ x ∈ p, x ∈ l := fun x hx => by
  have := splitL_flat l
  rw [← this]
  exact List.mem_flatten.2 ⟨p, h, hx⟩
/-- A row that was laid behind a some. -/
theorem SomeAt.rowBy {W : World} {p : Nat} {X X' : World} {lv : Value} {L : List LsV} {b : Nat} {D : DataW Unit} {n : Nat} (h : SomeAt W p X lv L b D n) (hX : Below X.heap.size X X') (a : Option Addr) (K : List LsV) (hr : RowOf lsC 1 X' a K) (ha : ∀ g, InRow a g → X.heap.size ≤ g ∧ g < X'.heap.size) : RowBy X' b p lv a K := by
  have hp : p < X.heap.size := World.block_lt_of_cell? X _ h.c0
  have hb := h.map.lt
  refine ⟨hr, ?_, fun q => by have := (ha _ q).1; omega, fun q => by have := (ha _ q).1; omega, fun g hg q => ?_, fun g q => (ha g q).2⟩
  · have hs : X.Shuns b (InRow a) := h.map.sh.reno h.map.map fun g hg => .inr (ha g hg).1
    exact hs.kept (grown_of hX none) hb (by simp)
  · have := (Own.lt h.own g hg).2
    have := (ha g q).1
    omega
/-- A some with a map, or with nothing. -/
def SomeSt (W : World) (p : Nat) (w : World) (L : List LsV) : Prop := (SomeNil W p w ∧ L = []) ∨ ∃ lv b D n, SomeAt W p w lv L b D n
theorem SomeSt.below {W w w' : World} {p : Nat} {L : List LsV} (h : SomeSt W p w L) (k : Below w.heap.size w w') : SomeSt W p w' L := by
  rcases h with ⟨h, e⟩ | ⟨lv, b, D, n, h⟩
  · exact .inl ⟨h.below k, e⟩
  · exact .inr ⟨lv, b, D, n, h.below k⟩
theorem SomeSt.bel {W w : World} {p : Nat} {L : List LsV} (h : SomeSt W p w L) : Below W.heap.size W w := by
  rcases h with ⟨h, _⟩ | ⟨lv, b, D, n, h⟩
  · exact h.bel
  · exact h.bel
/-- Add of a row that was laid behind the some. -/
theorem add_st (W : World) (p : Nat) (X X' : World) (L : List LsV) (h : SomeSt W p X L) (hX : Below X.heap.size X X') (a : Option Addr) (cap : Nat) (K : List LsV) (hr : RowOf lsC 1 X' a K) (ha : ∀ g, InRow a g → X.heap.size ≤ g ∧ g < X'.heap.size)
    (hk : ∀ y ∈ K, NdsAt W y.a y.cap y.ys) (hg : ∀ y ∈ K, Markable y.nds) (hl : L.length + K.length ≤ 536870912) :
    Calls Try.prog 42 #[.pointer (some ⟨p, 0, none⟩), .slice a K.length cap] X' fun e W' => e = .returned (.tuple #[]) ∧ SomeSt W p W' (K.foldl addV L) := by
  refine (add8_any W p X' L a cap K ?_ hk hg hl).mono fun e W' ⟨h1, h2⟩ => ⟨h1, .inr h2⟩
  rcases h with ⟨h, e⟩ | ⟨lv, b, D, n, h⟩
  · have hp : p < X.heap.size := World.block_lt_of_cell? X _ h.c0
    exact .inl ⟨h.below hX, e, hr, fun q => by have := (ha _ q).1; omega, fun g q => (ha g q).2⟩
  · exact .inr ⟨lv, b, D, n, h.below hX, h.rowBy hX a K hr ha⟩
theorem drop_sub {l : List Nd} {k : Nat} : ∀ x ∈ l.drop k, x ∈ l := fun x hx => List.mem_of_mem_drop hx
theorem Markable.drop {l : List Nd} (h : Markable l) (k : Nat) : Markable (l.drop k) := ⟨by rw [List.length_drop]; have := h.1; omega, fun x hx => h.2.1 x (drop_sub x hx), fun x hx => h.2.2 x (drop_sub x hx)⟩
set_option maxHeartbeats 8000000 in
theorem surely_any (W : World) (p : Nat) (X : World) (L : List LsV) (h : SomeSt W p X L) (hl : L.length ≤ 536870912) :
    Calls Try.prog 43 #[.pointer (some ⟨p, 0, none⟩)] X fun e W' => e = .returned (.bool (surelyN (L.map LsV.nds))) ∧ Below X.heap.size X W' := by
  rcases h with ⟨h, rfl⟩ | ⟨lv, b, D, n, h⟩
  · have c0 := h.c0
    clear h
    go_enter Try.func43, Try.ntmps43
    go_wp2
    go_loopw [10] (fun i wr => i = .int .i64 0 ∧ wr = X) (fun _ _ => 0)
    case atStart => exact ⟨rfl, rfl⟩
    case round =>
      obtain ⟨rfl, hw⟩ := hrel
      subst wr
      go_wp2
      go_ret
      exact ⟨rfl, Below.refl _ _⟩
  · have HS : Hid (∀ Y, Below X.heap.size X Y → SomeAt W p Y lv L b D n) := fun Y hY => h.below hY
    obtain ⟨la, lc, rfl, _, _, hrow⟩ := h.own.sl lsC_len default
    have HROW : Hid (∀ k, k < L.length → ∃ g, la = some ⟨g, 0, none⟩ ∧ ∀ Y, Below X.heap.size X Y → Y.cell? ⟨g, k, none⟩ = some (.slice (L.getD k default).a (L.getD k default).ys.length (L.getD k default).cap)) := fun k hk => by
      obtain ⟨g, e, _, _, hj⟩ := hrow k hk
      refine ⟨g, e, fun Y hY => cell_up hY ?_⟩
      have := hj 0 (by omega)
      simpa [lsC] using this
    have HE : Hid (∀ y ∈ L, NdsAt W y.a y.cap y.ys ∧ Markable y.nds) := fun y hy => ⟨h.each y hy, h.good y hy⟩
    have HT : Hid (∀ k, k < L.length → (isB (L.getD k default).nds 0 || (isB (L.getD k default).nds 3 && hasV L ((L.getD k default).nds.drop 1))) = true → surelyN (L.map LsV.nds) = true) := fun k hk hs => by
      unfold surelyN
      rw [List.any_eq_true]
      refine ⟨(L.getD k default).nds, List.mem_map_of_mem (getD_mem default hk), ?_⟩
      rw [List.any_map]; exact hs
    have HFA : Hid ((∀ k, k < L.length → (isB (L.getD k default).nds 0 || (isB (L.getD k default).nds 3 && hasV L ((L.getD k default).nds.drop 1))) = false) → surelyN (L.map LsV.nds) = false) := fun hs => by
      unfold surelyN
      rw [List.any_eq_false]
      intro x hx
      rw [List.mem_map] at hx
      obtain ⟨y, hy, rfl⟩ := hx
      obtain ⟨i, hi, rfl⟩ := List.getElem_of_mem hy
      have := hs i hi
      rw [show L.getD i default = L[i] by simp [List.getD_eq_getElem?_getD, hi]] at this
      rw [List.any_map]
      simpa [hasV, Function.comp_def] using this
    have c0 := h.c0
    clear h hrow
    generalize surelyN (L.map LsV.nds) = res at *
    go_enter Try.func43, Try.ntmps43
    go_wp2
    go_loopw [10] (fun i wr => ∃ k : Nat, k ≤ L.length ∧ i = .int .i64 k ∧ Below X.heap.size X wr ∧ ∀ j, j < k → (isB (L.getD j default).nds 0 || (isB (L.getD j default).nds 3 && hasV L ((L.getD j default).nds.drop 1))) = false) (fun i _ => L.length - (intOf i).toNat)
    case atStart => exact ⟨0, Nat.zero_le _, rfl, Below.refl _ _, fun j hj => by omega⟩
    case round =>
      obtain ⟨k, hk, rfl, hb, hj⟩ := hrel
      have HB : Hid (Below X.heap.size X wr) := hb
      have HJ : Hid (∀ j, j < k → (isB (L.getD j default).nds 0 || (isB (L.getD j default).nds 3 && hasV L ((L.getD j default).nds.drop 1))) = false) := hj
      clear hb hj
      by_cases hlt : k < L.length
      · obtain ⟨lg, rfl, hlc⟩ := HROW.out k hlt
        have hlc := hlc _ HB.out
        obtain ⟨hy, hgy⟩ := HE.out _ (getD_mem default hlt)
        have HY : Hid (NdsAt W (L.getD k default).a (L.getD k default).cap (L.getD k default).ys) := hy
        have HGY : Hid (Markable (L.getD k default).nds) := hgy
        have HTT : Hid ((isB (L.getD k default).nds 0 || (isB (L.getD k default).nds 3 && hasV L ((L.getD k default).nds.drop 1))) = true → res = true) := HT.out k hlt
        have HGO : Hid ((isB (L.getD k default).nds 0 || (isB (L.getD k default).nds 3 && hasV L ((L.getD k default).nds.drop 1))) = false → ∀ j, j < k + 1 → (isB (L.getD j default).nds 0 || (isB (L.getD j default).nds 3 && hasV L ((L.getD j default).nds.drop 1))) = false) := fun q j hj => by
          rcases Nat.lt_succ_iff_lt_or_eq.1 hj with z | z
          · exact HJ.out j z
          · rw [z]; exact q
        have hbw : Below W.heap.size W wr := (HS.out _ HB.out).bel
        have i0 := is_nds hy 0 wr hbw
        have i3 := is_nds hy 3 wr hbw
        have hnds : (L.getD k default).nds = (L.getD k default).ys.map (·.x) := rfl
        rw [hnds] at HTT HGO HGY
        clear hnds hy hgy hbw
        generalize L.getD k default = y at *
        obtain ⟨ys, ya, yc⟩ := y
        simp only at hlc HY HGY HTT HGO i0 i3
        cases h0 : isB (ys.map (·.x)) 0 with
        | true =>
          rw [h0] at i0
          have HR : Hid (res = true) := HTT.out (by rw [h0]; rfl)
          clear h0
          go_wp2_with (go_at_call 38; refine i0.mono ?_; rintro e w' ⟨rfl, hw⟩; subst w')
          go_ret
          exact ⟨ret_bool HR.out.symm, HB.out⟩
        | false =>
          rw [h0] at i0
          cases h3 : isB (ys.map (·.x)) 3 with
          | false =>
            rw [h3] at i3
            have HR := HGO.out (by rw [h0, h3]; rfl)
            have HR2 : Hid _ := HR
            clear h0 h3 HR
            go_wp2_with fail
            refine Calls.mono i0 ?_
            rintro e W1 ⟨rfl, hw⟩
            subst W1
            go_wp2_with fail
            refine Calls.mono i3 ?_
            rintro e W1 ⟨rfl, hw⟩
            subst W1
            go_wp2
            go_roundw
            case rel => exact ⟨k + 1, by omega, by go_num, HB.out, HR2.out⟩
            case measure => simp [intOf]; omega
          | true =>
            rw [h3] at i3
            have hpos := isB_pos h3
            obtain ⟨a2, hd2, hn2⟩ := nds_drop HY.out 1 (by omega)
            have hd : ∀ X, (Instr.slice 28 (.slice ya ys.length yc) (some (.int .i64 1)) none none).run Try.prog X = .ok (.slice a2 (ys.length - 1) (yc - 1)) X := hd2
            have hh := has8_any W p wr _ L b D n (HS.out _ HB.out) a2 (yc - 1) (ys.drop 1) hn2 (by rw [List.map_drop]; exact HGY.out.drop 1) (by omega)
            rw [List.length_drop, List.map_drop] at hh
            cases hb : hasV L ((ys.map (·.x)).drop 1) with
            | true =>
              rw [hb] at hh
              have HR : Hid (res = true) := HTT.out (by rw [h0, h3, hb]; rfl)
              clear h0 h3 hb
              go_wp2_with fail
              refine Calls.mono i0 ?_
              rintro e W1 ⟨rfl, hw⟩
              subst W1
              go_wp2_with fail
              refine Calls.mono i3 ?_
              rintro e W1 ⟨rfl, hw⟩
              subst W1
              go_wp2_with fail
              refine Calls.mono hh ?_
              rintro e W1 ⟨rfl, hw⟩
              go_wp2
              go_ret
              exact ⟨ret_bool HR.out.symm, HB.out.trans (hw.mono HB.out.size)⟩
            | false =>
              rw [hb] at hh
              have HR := HGO.out (by rw [h0, h3, hb]; rfl)
              have HR2 : Hid _ := HR
              clear h0 h3 hb HR
              go_wp2_with fail
              refine Calls.mono i0 ?_
              rintro e W1 ⟨rfl, hw⟩
              subst W1
              go_wp2_with fail
              refine Calls.mono i3 ?_
              rintro e W1 ⟨rfl, hw⟩
              subst W1
              go_wp2_with fail
              refine Calls.mono hh ?_
              rintro e W1 ⟨rfl, hw⟩
              have HB3 : Hid (Below X.heap.size X W1) := HB.out.trans (hw.mono HB.out.size)
              clear hw hh
              go_wp2
              go_roundw
              case rel => exact ⟨k + 1, by omega, by go_num, HB3.out, HR2.out⟩
              case measure => simp [intOf]; omega
      · have hkk : k = L.length := by omega
        have HR : Hid (res = false) := HFA.out (by rw [← hkk]; exact HJ.out)
        clear hkk
        go_wp2
        go_ret
        exact ⟨ret_bool HR.out.symm, HB.out⟩
end Go.Proofs.Ytpgdkgilmcipkaa
namespace Go.Proofs.Ytpgdkgilmcipkaa
open Go.RowKit
set_option linter.unusedVariables false
set_option maxRecDepth 100000

/-- What Split tells. -/
def Split2 (W0 W : World) (ys : List NdV) (e : Ending) (W' : World) : Prop := ∃ v L, e = .returned v ∧ Own lsC 28 1 W' W.heap.size v L ∧ L.map LsV.nds = splitL ((ys.map (·.x)).drop 1) ∧ (∀ y ∈ L, NdsAt W0 y.a y.cap y.ys) ∧ L.length ≤ ys.length ∧ Below W.heap.size W W'
set_option maxHeartbeats 4000000 in
theorem split2_any (a : Option Addr) (cap : Nat) (ys : List NdV) (W0 W : World) (h : NdsAt W0 a cap ys) (h0W : Below W0.heap.size W0 W) :
    Calls Try.prog 29 #[.slice a ys.length cap] W (Split2 W0 W ys) := by
  by_cases h0 : ys.length = 0
  · obtain rfl : ys = [] := List.length_eq_zero_iff.1 h0
    have HE : Hid (Split2 W0 W [] (.returned (.slice none 0 0)) W) := ⟨_, [], rfl, Own.nil _ _ _ _ _, rfl, (fun y hy => by cases hy), Nat.le_refl _, Below.refl _ _⟩
    clear h
    go_enter Try.func29, Try.ntmps29
    go_wp2
    go_ret
    exact HE.out
  · obtain ⟨a2, hd2, h2⟩ := nds_drop h 1 (by omega)
    have hd : ∀ X, (Instr.slice 28 (.slice a ys.length cap) (some (.int .i64 1)) none none).run Try.prog X = .ok (.slice a2 (ys.length - 1) (cap - 1)) X := hd2
    have HS0 : Hid (NdsAt W0 a2 (cap - 1) (ys.drop 1)) := h2
    have hfew := h.few
    have HW : Hid (∀ v L X, Own lsC 28 1 X W.heap.size v L → L.map LsV.nds = splitL ((ys.map (·.x)).drop 1) → (∀ y ∈ L, NdsAt W0 y.a y.cap y.ys) → L.length ≤ ys.length → Below W.heap.size W X → Split2 W0 W ys (.returned v) X) := fun v L X q1 q2 q3 q4 q5 => ⟨v, L, rfl, q1, q2, q3, q4, q5⟩
    have hne : ((ys.length : Int) == 0) = false := by rw [beq_eq_false_iff_ne]; omega
    have HL1 : Hid ((ys.drop 1).length = ys.length - 1) := List.length_drop
    have HM1 : Hid ((ys.map (·.x)).drop 1 = (ys.drop 1).map (·.x)) := (List.map_drop).symm
    have H0W : Hid (Below W0.heap.size W0 W) := h0W
    clear hd2 h2 h h0W
    go_enter Try.func29, Try.ntmps29
    go_wp2
    go_loopw [3, 4] (fun kv rv wr => ∃ L zs ra rc ka kn kc, rv = .slice ra zs.length rc ∧ kv = .slice ka kn kc ∧ Own lsC 28 1 wr W.heap.size (.slice ka kn kc) L ∧ NdsAt W0 ra rc zs ∧ (∀ y ∈ L, NdsAt W0 y.a y.cap y.ys) ∧ splitL ((ys.map (·.x)).drop 1) = L.map LsV.nds ++ splitL (zs.map (·.x)) ∧ Below W.heap.size W wr ∧ L.length + zs.length ≤ ys.length) (fun _ r _ => slLen r)
    case atStart => exact ⟨[], ys.drop 1, a2, cap - 1, none, 0, 0, by rw [HL1.out], rfl, Own.nil _ _ _ _ _, HS0.out, (fun y hy => by cases hy), by rw [HM1.out]; rfl, Below.refl _ _, by rw [HL1.out]; simp⟩
    case round =>
      obtain ⟨L, zs, ra, rc, ka, kn, kc, rfl, rfl, ho, hn, hall, hs, hb, hlen⟩ := hrel
      have HB : Hid (Below W.heap.size W wr) := hb
      have HO : Hid (Own lsC 28 1 wr W.heap.size (.slice ka kn kc) L) := ho
      have HALL : Hid (∀ y ∈ L, NdsAt W0 y.a y.cap y.ys) := hall
      have HS : Hid (splitL ((ys.map (·.x)).drop 1) = L.map LsV.nds ++ splitL (zs.map (·.x))) := hs
      have HN : Hid (NdsAt W0 ra rc zs) := hn
      clear hb ho hall hs hn
      by_cases hz : 0 < zs.length
      · have HC := treeSize_any ra rc (zs.map (·.x)) wr (HN.out.below (H0W.out.trans (HB.out.mono H0W.out.size))).nodes (by rw [List.length_map]; exact HN.out.few)
        rw [List.length_map] at HC
        have HSP : Hid (splitL (zs.map (·.x)) = (zs.map (·.x)).take (scanW 1 (zs.map (·.x))).1 :: splitL ((zs.map (·.x)).drop (scanW 1 (zs.map (·.x))).1)) := splitL_ne (by rw [List.length_map]; exact hz)
        have hs1 : (scanW 1 (zs.map (·.x))).1 ≤ zs.length := by have := scanW_le (zs.map (·.x)) 1; rwa [List.length_map] at this
        have hs0 : 0 < (scanW 1 (zs.map (·.x))).1 := by
          cases zs with
          | nil => simp at hz
          | cons z zs => exact scanW_pos 1 z.x _
        generalize (scanW 1 (zs.map (·.x))).1 = s at *
        generalize (scanW 1 (zs.map (·.x))).2 = sb at *
        have ht := nds_take HN.out s hs1
        obtain ⟨a3, hd3, h3⟩ := nds_drop HN.out s hs1
        have HN3 : Hid (NdsAt W0 a3 (rc - s) (zs.drop s)) := h3
        have HL3 : Hid ((zs.drop s).length = zs.length - s) := List.length_drop
        have HX : Hid (∀ W2, Below W.heap.size W W2 → Below wr.heap.size wr W2 → ∃ va vn vc X, (Builtin.append_ #[39, 39] 39 #[.slice ka kn kc, .slice (some ⟨W2.heap.size, 0, none⟩) 1 1]).run Try.prog (W2.alloc (.cells #[.slice ra s rc] 28)) = .ok (.slice va vn vc) X ∧ Own lsC 28 1 X W.heap.size (.slice va vn vc) (L ++ [⟨zs.take s, ra, rc⟩]) ∧ Below W.heap.size W X) := fun W2 b1 b2 => by
          have hfew' := HN.out.few
          obtain ⟨v', X, hr, ho, hg, _⟩ := Own.append lsC_len lsC_one Try.underlying39 infoNodes rfl (by omega) (W2.alloc (.cells #[.slice ra s rc] 28)) W.heap.size (.slice ka kn kc) L (HO.out.below (b2.alloc b2.size _)) ⟨zs.take s, ra, rc⟩ W2.heap.size
            (by intro j hj; obtain rfl : j = 0 := by omega
                simp only [go_sem, lsC, List.length_take, Nat.min_eq_left hs1]; simp) (by unfold maxLen; omega) (by omega) (by have := b1.size; simp; omega)
          obtain ⟨va, vc, rfl, _⟩ := ho.sl lsC_len default
          refine ⟨va, _, vc, X, hr, ho, (b1.alloc b1.size _).trans ((Mod.grown hg).belowOf (by have := b1.size; simp; omega) fun g hh => ?_)⟩
          exact (Own.lt HO.out g (by simpa using hh)).1
        have HNEW : Hid (∀ y ∈ L ++ [(⟨zs.take s, ra, rc⟩ : LsV)], NdsAt W0 y.a y.cap y.ys) := fun y hy => by
          rcases List.mem_append.1 hy with hy | hy
          · exact HALL.out y hy
          · simp only [List.mem_singleton] at hy
            subst hy
            exact HN.out.take s
        have HSN : Hid (splitL ((ys.map (·.x)).drop 1) = (L ++ [(⟨zs.take s, ra, rc⟩ : LsV)]).map LsV.nds ++ splitL ((zs.drop s).map (·.x))) := by
          show _ = _
          rw [HS.out, HSP.out]
          simp [LsV.nds]
        clear h3 HALL HS HN HSP
        go_wp2_with fail
        refine Calls.mono HC ?_
        rintro e W2 ⟨rfl, hb2⟩
        have HB2 : Hid (Below W.heap.size W W2) := HB.out.trans (hb2.mono HB.out.size)
        obtain ⟨va, vn, vc, X, hr, hx⟩ := HX.out W2 HB2.out hb2
        have HR : Hid _ := hr
        have HXX : Hid (Own lsC 28 1 X W.heap.size (.slice va vn vc) (L ++ [⟨zs.take s, ra, rc⟩]) ∧ Below W.heap.size W X) := hx
        clear hr hx hb2 HX HC HO
        go_wp2_with (at_builtin; refine append_runO (by rfl) _ _ (by rfl) (by rfl) _ _ _ _ (by rfl) (by rfl) HR.out ?_)
        go_roundw
        case rel => exact ⟨_, zs.drop s, a3, rc - s, va, vn, vc, by rw [HL3.out], rfl, HXX.out.1, HN3.out, HNEW.out, HSN.out, HXX.out.2, by rw [HL3.out]; simp; omega⟩
        case measure => simp [slLen]; omega
      · obtain rfl : zs = [] := List.length_eq_zero_iff.1 (by omega)
        have HSN : Hid (L.map LsV.nds = splitL ((ys.map (·.x)).drop 1)) := by
          show _ = _
          rw [HS.out]; simp [splitL_nil]
        clear HS HN
        simp only [List.length_nil] at *
        go_wp2
        go_ret
        exact HW.out _ _ _ HO.out HSN.out HALL.out (by omega) HB.out
end Go.Proofs.Ytpgdkgilmcipkaa
namespace Go.Proofs.Ytpgdkgilmcipkaa
open Go.RowKit Go.Maps Go.ChangeShapes
set_option linter.unusedVariables false
set_option maxRecDepth 100000

def totN (M : List (List Nd)) : Nat := (M.map List.length).sum
theorem totN_append (A B : List (List Nd)) : totN (A ++ B) = totN A + totN B := by unfold totN; simp
theorem totN_flat (M : List (List Nd)) : totN M = M.flatten.length := by unfold totN; rw [List.length_flatten]
theorem tot_nds (L : List LsV) : tot L = totN (L.map LsV.nds) := by
  unfold tot totN
  rw [List.map_map]
  congr 1
  apply List.map_congr_left
  intro y _
  simp [LsV.nds]
theorem addN_tot (M : List (List Nd)) (x : List Nd) : totN (addN M x) ≤ totN M + x.length ∧ (addN M x).length ≤ M.length + 1 := by
  unfold addN
  split
  · omega
  · rw [totN_append, List.length_append]; simp [totN]
theorem foldN_tot (l : List (List Nd)) : ∀ M : List (List Nd), totN (l.foldl addN M) ≤ totN M + totN l ∧ (l.foldl addN M).length ≤ M.length + l.length := by
  induction l with
  | nil => intro M; simp [totN]
  | cons x l ih =>
    intro M
    have h1 := ih (addN M x)
    have h2 := addN_tot M x
    have h3 : totN (x :: l) = x.length + totN l := by simp [totN]
    simp only [List.foldl_cons, List.length_cons]
    omega
theorem flatO_tot (l : List (List Nd)) : totN (flatO l) ≤ totN l ∧ (flatO l).length ≤ totN l + l.length := by
  induction l with
  | nil => simp [flatO, totN]
  | cons x l ih =>
    have e : flatO (x :: l) = (if isB x 5 then splitL (x.drop 1) else [x]) ++ flatO l := by simp [flatO]
    have h3 : totN (x :: l) = x.length + totN l := by simp [totN]
    rw [e, totN_append, List.length_append, h3, List.length_cons]
    split
    · have h1 := splitL_len (x.drop 1)
      have h2 : totN (splitL (x.drop 1)) = (x.drop 1).length := by rw [totN_flat, splitL_flat]
      rw [List.length_drop] at h1 h2
      omega
    · have : totN [x] = x.length := by simp [totN]
      simp only [List.length_singleton]; omega
theorem someN_tot (l : List (List Nd)) : totN (someN l) ≤ totN l ∧ (someN l).length ≤ totN l + l.length := by
  have h1 := foldN_tot (flatO l) []
  have h2 := flatO_tot l
  unfold someN
  simp [totN] at h1 h2 ⊢
  omega
theorem totN_take (l : List (List Nd)) (k : Nat) : totN (l.take k) ≤ totN l := by
  have := totN_append (l.take k) (l.drop k)
  rw [List.take_append_drop] at this; omega
theorem SomeSt.list {W w : World} {p : Nat} {L : List LsV} (h : SomeSt W p w L) (hl : L.length ≤ 536870912) : ∃ la lc, w.cell? ⟨p, 0, none⟩ = some (.slice la L.length lc) ∧ LssAt w la lc L := by
  rcases h with ⟨h, rfl⟩ | ⟨lv, b, D, n, h⟩
  · exact ⟨none, 0, h.c0, nil_lss w⟩
  · obtain ⟨la, lc, rfl, _, _, _⟩ := h.own.sl lsC_len default
    obtain ⟨_, r2, r3, _⟩ := Own.room lsC_len default h.own
    exact ⟨la, lc, h.c0, Own.rows lsC_len h.own, r2, r3, by omega, fun y hy => (h.each y hy).below h.bel⟩
theorem someN_step (l : List (List Nd)) (k : Nat) (hk : k < l.length) : (flatO (l.take (k + 1))).foldl addN [] = (if isB (l.getD k []) 5 then splitL ((l.getD k []).drop 1) else [l.getD k []]).foldl addN ((flatO (l.take k)).foldl addN []) := by
  rw [flatO_take l k hk, List.foldl_append]
theorem Own.inRow {X : Type} {C : X → List Value} {e : TypeId} {c : Nat} {W : World} {B : Nat} {a : Option Addr} {n cap : Nat} {l : List X} (hC : ∀ x, (C x).length = c) (z : X) (h : Own C e c W B (.slice a n cap) l) (g : Nat) (hg : InRow a g) : B ≤ g ∧ g < W.heap.size := by
  obtain ⟨x, rfl, rfl⟩ := hg
  obtain ⟨a', cap', e', _, h2, _⟩ := h.sl hC z
  cases e'
  obtain ⟨g', rfl, h3, h4⟩ := h2 _ rfl
  exact ⟨h3, h4⟩
set_option maxHeartbeats 16000000 in
theorem or_any (a : Option Addr) (cap : Nat) (K : List LsV) (W : World) (h : LssAt W a cap K) (hg : ∀ y ∈ K, GoodN y.nds) (ht : tot K + K.length ≤ 134217728) :
    Calls Try.prog 20 #[.slice a K.length cap] W (Makes W (orL (K.map LsV.nds))) := by
  have HK : Hid (LssAt W a cap K) := h
  have HG : Hid (∀ y ∈ K, GoodN y.nds) := hg
  have hlk : (K.map LsV.nds).length = K.length := List.length_map _
  have htn : totN (K.map LsV.nds) + K.length ≤ 134217728 := by rw [← tot_nds]; exact ht
  have HTN : Hid (totN (K.map LsV.nds) + K.length ≤ 134217728) := htn
  have HLB : Hid (∀ (L : List LsV) (k : Nat), L.map LsV.nds = (flatO ((K.map LsV.nds).take k)).foldl addN [] → L.length ≤ 134217728 ∧ tot L ≤ 134217728) := fun L k e => by
    have h1 := someN_tot ((K.map LsV.nds).take k)
    have h2 := totN_take (K.map LsV.nds) k
    have h3 : ((K.map LsV.nds).take k).length ≤ K.length := by rw [List.length_take, hlk]; omega
    unfold someN at h1
    rw [← e] at h1
    rw [tot_nds]
    rw [List.length_map] at h1
    omega
  have HS0 : Hid (SomeNil W W.heap.size (W.alloc (.cells #[.slice none 0 0, .map none] 81))) := ⟨(Below.refl _ _).alloc (Nat.le_refl _) _, Nat.le_refl _, by simp [go_sem], by simp [go_sem], by simp [go_sem], by simp [go_sem]⟩
  have HSTEP : Hid (∀ k, k < K.length → (flatO ((K.map LsV.nds).take (k + 1))).foldl addN [] = (if isB (K.getD k default).nds 5 then splitL ((K.getD k default).nds.drop 1) else [(K.getD k default).nds]).foldl addN ((flatO ((K.map LsV.nds).take k)).foldl addN [])) := fun k hk => by
    have := someN_step (K.map LsV.nds) k (by rw [hlk]; exact hk)
    rw [map_getD LsV.nds default [] hk] at this
    exact this
  have HEQ : Hid (someN (K.map LsV.nds) = (flatO ((K.map LsV.nds).take K.length)).foldl addN []) := by
    show _ = _
    unfold someN; rw [← hlk, List.take_length]
  have HOR : Hid (orL (K.map LsV.nds) = if surelyN (someN (K.map LsV.nds)) then [tt] else if (someN (K.map LsV.nds)).length = 0 then [ff] else if (someN (K.map LsV.nds)).length = 1 then (someN (K.map LsV.nds)).flatten else mkL 5 0 0 (someN (K.map LsV.nds))) := rfl
  have hkl := h.few
  clear h hg hlk ht htn
  generalize orL (K.map LsV.nds) = res at *
  go_enter Try.func20, Try.ntmps20
  go_wp2
  go_loopw [8] (fun i wr => ∃ (k : Nat) (L : List LsV), k ≤ K.length ∧ i = .int .i64 k ∧ SomeSt W W.heap.size wr L ∧ L.map LsV.nds = (flatO ((K.map LsV.nds).take k)).foldl addN []) (fun i _ => K.length - (intOf i).toNat)
  case atStart => exact ⟨0, [], Nat.zero_le _, rfl, .inl ⟨HS0.out, rfl⟩, rfl⟩
  case round =>
    obtain ⟨k, L, hk, rfl, hs, he⟩ := hrel
    have HS : Hid (SomeSt W W.heap.size wr L) := hs
    have HE : Hid (L.map LsV.nds = (flatO ((K.map LsV.nds).take k)).foldl addN []) := he
    obtain ⟨hl, htl⟩ := HLB.out L k he
    clear hs he
    by_cases hlt : k < K.length
    · obtain ⟨b, off, rfl, hc⟩ := HK.out.cell k hlt
      have hc := cell_up HS.out.bel hc
      have hy := HK.out.each _ (getD_mem default hlt)
      have hgy := HG.out _ (getD_mem default hlt)
      have HST := HSTEP.out k hlt
      rw [← HE.out] at HST
      have HST2 : Hid _ := HST
      have hty : (K.getD k default).ys.length ≤ 134217728 := by
        have h1 := tot_take K k hlt
        have h2 := tot_le K (k + 1)
        have h3 : tot K = totN (K.map LsV.nds) := tot_nds K
        have := HTN.out
        omega
      have HY : Hid (NdsAt W (K.getD k default).a (K.getD k default).cap (K.getD k default).ys) := hy
      have HGY : Hid (GoodN ((K.getD k default).ys.map (·.x))) := hgy
      have hnd : (K.getD k default).nds = (K.getD k default).ys.map (·.x) := rfl
      rw [hnd] at HST2
      clear hy hgy HST hnd
      generalize K.getD k default = y at *
      obtain ⟨ys, ya, yc⟩ := y
      simp only at hc hty HY HGY HST2
      have i5 := is_nds HY.out 5 wr HS.out.bel
      cases h5 : isB (ys.map (·.x)) 5 with
      | true =>
        rw [h5] at i5 HST2
        have hsp := split2_any ya yc ys W wr HY.out HS.out.bel
        clear h5
        go_wp2_with (go_at_call 38; refine i5.mono ?_; rintro e w' ⟨rfl, hw⟩; subst w')
        refine Calls.mono hsp ?_
        rintro e W2 ⟨v, Ls, rfl, ho, hnds, hall, hlen, hb2⟩
        obtain ⟨va, vc, rfl, _, _, _⟩ := ho.sl lsC_len default
        have hadd := add_st W W.heap.size wr W2 L HS.out hb2 va vc Ls (Own.rows lsC_len ho) (fun g q => Own.inRow lsC_len default ho g q) hall (fun z hz => by
          have hm : z.nds ∈ splitL ((ys.map (·.x)).drop 1) := by rw [← hnds]; exact List.mem_map_of_mem hz
          refine (HGY.out.sub fun x hx => drop_sub x (splitL_sub hm x hx)).mark ?_
          have := (hall z hz).few
          unfold LsV.nds; rw [List.length_map]; omega) (by omega)
        have HN : Hid ((Ls.foldl addV L).map LsV.nds = (flatO ((K.map LsV.nds).take (k + 1))).foldl addN []) := by
          show _ = _
          rw [foldV_nds, HST2.out, hnds]; rfl
        have HADD : Hid _ := hadd
        clear ho hnds hall hlen hb2 hadd hsp i5
        go_wp2_with fail
        refine Calls.mono HADD.out ?_
        rintro e W3 ⟨rfl, hs3⟩
        have HS3 : Hid (SomeSt W W.heap.size W3 (Ls.foldl addV L)) := hs3
        clear hs3 HADD HS HE
        go_wp2
        go_roundw
        case rel => exact ⟨k + 1, _, by omega, by go_num, HS3.out, HN.out⟩
        case measure => simp [intOf]; omega
      | false =>
        rw [h5] at i5 HST2
        clear h5
        have hrow : RowOf lsC 1 (wr.alloc (.cells #[.slice ya ys.length yc] 28)) (some ⟨wr.heap.size, 0, none⟩) [(⟨ys, ya, yc⟩ : LsV)] := fun i hi => by
          obtain rfl : i = 0 := by simpa using hi
          exact ⟨wr.heap.size, 0, rfl, fun j hj => by obtain rfl : j = 0 := by omega
                                                      simp [go_sem, lsC]⟩
        have hadd := add_st W W.heap.size wr _ L HS.out ((Below.refl _ _).alloc (Nat.le_refl _) _) (some ⟨wr.heap.size, 0, none⟩) 1 [⟨ys, ya, yc⟩] hrow (fun g ⟨x, hx, hxg⟩ => by cases hx; simp at hxg ⊢; omega) (fun z hz => by simp only [List.mem_singleton] at hz; subst hz; exact HY.out) (fun z hz => by
          simp only [List.mem_singleton] at hz; subst hz
          refine HGY.out.mark ?_
          rw [List.length_map]; omega) (by simp; omega)
        have HN : Hid (([(⟨ys, ya, yc⟩ : LsV)].foldl addV L).map LsV.nds = (flatO ((K.map LsV.nds).take (k + 1))).foldl addN []) := by
          show _ = _
          rw [foldV_nds, HST2.out]; rfl
        have HADD : Hid (Calls Try.prog 42 #[.pointer (some ⟨W.heap.size, 0, none⟩), .slice (some ⟨wr.heap.size, 0, none⟩) 1 1] (wr.alloc (.cells #[.slice ya ys.length yc] 28)) fun e W' => e = .returned (.tuple #[]) ∧ SomeSt W W.heap.size W' ([(⟨ys, ya, yc⟩ : LsV)].foldl addV L)) := hadd
        clear hrow hadd
        go_wp2_with (go_at_call 38; refine i5.mono ?_; rintro e w' ⟨rfl, hw⟩; subst w')
        refine Calls.mono HADD.out ?_
        rintro e W3 ⟨rfl, hs3⟩
        have HS3 : Hid (SomeSt W W.heap.size W3 ([(⟨ys, ya, yc⟩ : LsV)].foldl addV L)) := hs3
        clear hs3 HADD HS HE i5
        go_wp2
        go_roundw
        case rel => exact ⟨k + 1, _, by omega, by go_num, HS3.out, HN.out⟩
        case measure => simp [intOf]; omega
    · have hkk : k = K.length := by omega
      have HM : Hid (L.map LsV.nds = someN (K.map LsV.nds)) := by show _ = _; rw [HEQ.out, HE.out, hkk]
      have hsu := surely_any W W.heap.size wr L HS.out (by omega)
      have HBW : Hid (Below W.heap.size W wr) := HS.out.bel
      rw [← HM.out] at HOR
      rw [List.length_map] at HOR
      clear hkk HE HEQ HSTEP HM HLB
      cases hsv : surelyN (L.map LsV.nds) with
      | true =>
        rw [hsv] at hsu HOR
        have HR : Hid (res = [tt]) := HOR.out
        clear hsv HOR
        go_wp2_with fail
        refine Calls.mono hsu ?_
        rintro e W4 ⟨rfl, hb4⟩
        have hb5 : Below W.heap.size W W4 := HBW.out.trans (hb4.mono HBW.out.size)
        have hy := yes_makes hb5
        clear hsu hb4
        go_wp2_with fail
        refine Calls.mono hy ?_
        intro e W5 hm
        obtain ⟨v, rfl, hm⟩ := hm.ret
        have HMK : Hid (Makes W [tt] (.returned v) W5) := hm
        clear hm hy
        go_wp2
        go_ret
        rw [HR.out]
        exact HMK.out
      | false =>
        rw [hsv] at hsu HOR
        have HR : Hid (res = if L.length = 0 then [ff] else if L.length = 1 then (L.map LsV.nds).flatten else mkL 5 0 0 (L.map LsV.nds)) := HOR.out
        clear hsv HOR
        go_wp2_with fail
        refine Calls.mono hsu ?_
        rintro e W4 ⟨rfl, hb4⟩
        have hs4 := HS.out.below hb4
        have hb5 : Below W.heap.size W W4 := hs4.bel
        obtain ⟨la, lc, c4, hls⟩ := hs4.list (by omega)
        have HB5 : Hid (Below W.heap.size W W4) := hb5
        have HLS : Hid (LssAt W4 la lc L) := hls
        clear hsu hb4 hs4 hls hb5
        by_cases h0 : L.length = 0
        · have HR2 : Hid (res = [ff]) := by show _ = _; rw [HR.out, if_pos h0]
          have hn := no_makes HB5.out
          rw [h0] at c4
          clear h0 HR
          go_wp2_with fail
          refine Calls.mono hn ?_
          intro e W5 hm
          obtain ⟨v, rfl, hm⟩ := hm.ret
          have HMK : Hid (Makes W [ff] (.returned v) W5) := hm
          clear hm hn
          go_wp2
          go_ret
          rw [HR2.out]
          exact HMK.out
        · by_cases h1 : L.length = 1
          · have HR2 : Hid (res = (L.map LsV.nds).flatten) := by show _ = _; rw [HR.out, if_neg h0, if_pos h1]
            have hj : Calls Try.prog 30 #[.slice la L.length lc] W4 (Makes W (L.map LsV.nds).flatten) := by
              refine (join_any la lc L W4 HLS.out (by omega)).mono ?_
              rintro e W' ⟨v, zs, rfl, z1, z2, z3⟩
              exact ⟨v, zs, rfl, z1.lower HB5.out.size, by rw [z2, flat_nds], HB5.out.trans (z3.mono HB5.out.size)⟩
            rw [h1] at c4 hj
            clear h0 h1 HR
            go_wp2_with fail
            refine Calls.mono hj ?_
            intro e W5 hm
            obtain ⟨v, rfl, hm⟩ := hm.ret
            have HMK : Hid (Makes W (L.map LsV.nds).flatten (.returned v) W5) := hm
            clear hm hj
            go_wp2
            go_ret
            rw [HR2.out]
            exact HMK.out
          · have HR2 : Hid (res = mkL 5 0 0 (L.map LsV.nds)) := by show _ = _; rw [HR.out, if_neg h0, if_neg h1]
            have hmk := make_op HB5.out 5 0 0 la lc L HLS.out (by omega) (by omega)
            have k0 : ((L.length : Int) == 0) = false := by rw [beq_eq_false_iff_ne]; omega
            have k1 : ((L.length : Int) == 1) = false := by rw [beq_eq_false_iff_ne]; omega
            clear h0 h1 HR
            go_wp2_with fail
            refine Calls.mono hmk ?_
            intro e W5 hm
            obtain ⟨v, rfl, hm⟩ := hm.ret
            have HMK : Hid (Makes W (mkL 5 0 0 (L.map LsV.nds)) (.returned v) W5) := hm
            clear hm hmk
            go_wp2
            go_ret
            rw [HR2.out]
            exact HMK.out
end Go.Proofs.Ytpgdkgilmcipkaa
