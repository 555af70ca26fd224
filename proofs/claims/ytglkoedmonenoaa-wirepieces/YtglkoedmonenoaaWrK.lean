/- Wire's Put. Conditions: lengths and numbers of 64 bits. -/
import Derived.Test.YtglkoedmonenoaaWrJ
namespace Go.Proofs.Ytglkoedmonenoaa
open Go.RowKit
set_option linter.unusedVariables false
set_option maxRecDepth 100000

set_option maxHeartbeats 1000000 in
theorem put_not (f : FrV) {w : World} {a : Option Addr} {cap : Nat} (h0 : f.err ≠ 0) :
    Calls Try.prog 8 #[frOf f (.slice a f.zs.length cap)] w fun e w' => e = .returned (.tuple #[.string ⟨#[]⟩, .int .i64 f.err]) ∧ Below w.heap.size w w' := by
  have HF : Hid (∀ X, Calls Try.prog 14 #[frOf f (.slice a f.zs.length cap)] X fun e w' => e = .returned (.int .i64 f.err) ∧ Below X.heap.size X w') := fun X => fault_any f a cap X
  have hne : (f.err != 0) = true := by simpa using h0
  unfold frOf at *
  have HB : Hid (Below w.heap.size w (w.alloc (.cells #[.int .i64 f.k, .int .i64 f.fr, .int .i64 f.t, .slice a f.zs.length cap, .string ⟨f.d.toArray⟩] 26))) := (Below.refl _ w).alloc (Nat.le_refl _) _
  clear h0
  generalize f.err = E at *
  go_enter Try.func8, Try.ntmps8
  go_wp2_with fail
  refine Calls.mono (HF.out _) ?_
  rintro e W2 ⟨rfl, hb⟩
  have HB2 : Hid (Below w.heap.size w W2) := HB.out.trans (hb.mono HB.out.size)
  clear hb
  go_wp2
  go_ret2
  exact ⟨rfl, HB2.out⟩

theorem wrap16 (n : Nat) (h : n ≤ 60000) : -32768 ≤ IntKind.i16.wrap (n : Int) ∧ IntKind.i16.wrap (n : Int) ≤ 32767 ∧ IntKind.i16.wrap (n : Int) % 65536 = (n : Int) % 65536 := by
  simp only [IntKind.wrap, IntKind.bits, IntKind.signed]
  simp
  split <;> omega
theorem ofNat_toNat_le (x : Int) (h0 : 0 ≤ x) (h1 : x ≤ 255) : ((UInt8.ofNat x.toNat).toNat : Int) = x := by simp; omega
theorem own_three (W : World) (B : Nat) (x y : Int) (hx : 0 ≤ x ∧ x ≤ 255) (hy : 0 ≤ y ∧ y ≤ 255) (hB : B ≤ W.heap.size) :
    OB (W.alloc (.cells #[.int .u8 165, .int .u8 x, .int .u8 y] 5)) B (.slice (some ⟨W.heap.size, 0, none⟩) 3 3) [165, UInt8.ofNat x.toNat, UInt8.ofNat y.toNat] := by
  have := World.ownsRow_lit (base := B) (e := 5) (size := 1) W #[.int .u8 165, .int .u8 x, .int .u8 y] 3 hB (by unfold maxLen; omega) (by simp)
  unfold OB
  have e : byteCells [165, UInt8.ofNat x.toNat, UInt8.ofNat y.toNat] = #[Value.int .u8 165, .int .u8 x, .int .u8 y].toList := by
    simp only [byteCells, List.map_cons, List.map_nil, ofNat_toNat_le x hx.1 hx.2, ofNat_toNat_le y hy.1 hy.2]; rfl
  rw [e]; exact this
theorem bs_one (W : World) (x : Nat) (hx : x ≤ 255) : BS (W.alloc (.cells #[.int .u8 (x : Int)] 5)) (some ⟨W.heap.size, 0, none⟩) 1 [UInt8.ofNat x] := by
  refine ⟨fun i hi => ⟨W.heap.size, 0, rfl, ?_⟩, by simp, fun e => (by cases e), by omega⟩
  have h0 : i = 0 := by simpa using hi
  subst h0
  have e : (((UInt8.ofNat x).toNat : Nat) : Int) = x := by simp; omega
  simp only [List.getD_cons_zero, e]
  simp [go_sem]
theorem numsL_succ (zs : List Int) (i : Nat) (h : i < zs.length) : numsL (zs.take (i + 1)) = numsL (zs.take i) ++ putL 8 (zs.getD i 0) := by
  unfold numsL
  rw [List.take_add_one, List.getElem?_eq_getElem h, List.getD_eq_getElem?_getD, List.getElem?_eq_getElem h]
  simp only [Option.toList_some, List.flatMap_append, List.flatMap_cons, List.flatMap_nil, List.append_nil, Option.getD_some]
set_option maxHeartbeats 4000000 in
theorem put_good (f : FrV) {w : World} {a : Option Addr} {cap : Nat} (h0 : f.err = 0) (hz : IntRow w a f.zs) (hf : ∀ z ∈ f.zs, -9223372036854775808 ≤ z ∧ z ≤ 9223372036854775807) :
    Calls Try.prog 8 #[frOf f (.slice a f.zs.length cap)] w fun e w' => e = .returned (.tuple #[.string ⟨(frameL f).toArray⟩, .int .i64 0]) ∧ Below w.heap.size w w' := by
  have HF : Hid (∀ X, Calls Try.prog 14 #[frOf f (.slice a f.zs.length cap)] X fun e w' => e = .returned (.int .i64 0) ∧ Below X.heap.size X w') := fun X => by
    have := fault_any f a cap X
    rw [h0] at this; exact this
  have ok := f.err_ok h0
  have HO : Hid f.Ok := ok
  obtain ⟨ok1, ok2, ok3, ok4, ok5⟩ := ok
  have hwk : IntKind.u8.wrap f.k = f.k := by simp [IntKind.wrap, IntKind.bits, IntKind.signed]; omega
  have hwf : IntKind.u8.wrap f.fr = f.fr := by simp [IntKind.wrap, IntKind.bits, IntKind.signed]; omega
  have hwn : IntKind.u8.wrap (f.zs.length : Int) = (f.zs.length : Int) := by simp [IntKind.wrap, IntKind.bits, IntKind.signed]; omega
  have hsz := size_text f.d
  have h16 := wrap16 f.d.length ok5
  unfold frOf at *
  have HFR : Hid (headL f = [165, UInt8.ofNat f.k.toNat, UInt8.ofNat f.fr.toNat] ++ (putL 6 f.t ++ [UInt8.ofNat f.zs.length]) ∧ bodyL f = headL f ++ (numsL f.zs ++ (putL 2 (IntKind.i16.wrap (f.d.length : Int)) ++ f.d)) ∧ frameL f = bodyL f ++ putL 5 (4294967295 - (crcL (bodyL f) : Int))) := by
    refine ⟨rfl, ?_, rfl⟩
    unfold bodyL
    rw [put_mod 2 (IntKind.i16.wrap (f.d.length : Int)) (f.d.length : Int) (by rw [show (256 : Int) ^ 2 = 65536 from rfl]; exact h16.2.2)]
  have HZ : Hid (∀ X, Below w.heap.size w X → IntRow X a f.zs) := fun X h => hz.grow h
  have HV : Hid (∀ i, i < f.zs.length → B64 (f.zs.getD i 0)) := fun i hi => by
    rw [List.getD_eq_getElem?_getD, List.getElem?_eq_getElem hi]; exact hf _ (List.getElem_mem hi)
  have HT : Hid (fitsB f.t 6 = true ∧ fitsB (IntKind.i16.wrap (f.d.length : Int)) 2 = true) := by
    refine ⟨by unfold fitsB; simp; omega, by unfold fitsB; simp; omega⟩
  have HLN : Hid ((headL f).length = 10 ∧ (bodyL f).length ≤ 70000) := ⟨headL_len f, by rw [bodyL_len]; omega⟩
  have HNL : Hid (∀ k, (numsL (f.zs.take k)).length ≤ 800) := fun k => by
    rw [numsL_len]; have := List.length_take_le k f.zs; have : (f.zs.take k).length ≤ f.zs.length := by rw [List.length_take]; omega
    omega
  obtain ⟨k, fr, t, zs, d⟩ := f
  dsimp only at *
  rw [← hsz] at h16 HT HFR
  have hd : (⟨d.toArray⟩ : ByteArray).data.toList = d := by simp
  generalize hs : (⟨d.toArray⟩ : ByteArray) = s at *
  have hss : s.size ≤ 60000 := by omega
  clear hz hf h0 ok5 hsz
  obtain ⟨M, hM⟩ : ∃ M, IntKind.i16.wrap (s.size : Int) = M := ⟨_, rfl⟩
  rw [hM] at h16 HT HFR
  go_enter Try.func8, Try.ntmps8
  go_wp2_with fail
  obtain ⟨W1, hW1⟩ : ∃ Z, w.alloc (.cells #[.int .i64 k, .int .i64 fr, .int .i64 t, .slice a zs.length cap, .string s] 26) = Z := ⟨_, rfl⟩
  have HB1 : Hid (Below w.heap.size w W1 ∧ W1.heap.size = w.heap.size + 1 ∧ FrAt W1 w.heap.size k fr t (.slice a zs.length cap) (.string s)) := by
    subst hW1; exact ⟨(Below.refl _ w).alloc (Nat.le_refl _) _, by simp, frAt_new _ _ _ _ _ _⟩
  rw [hW1]
  clear hW1
  refine Calls.mono (HF.out _) ?_
  rintro e W2 ⟨rfl, hb⟩
  have HB2 : Hid (Below W1.heap.size W1 W2) := hb
  have hF := HB1.out.2.2.below hb
  have u0 := hF.c0
  have u1 := hF.c1
  have u2 := hF.c2
  have u3 := hF.c3
  have u4 := hF.c4
  clear hb hF HF
  have hlt : w.heap.size < W2.heap.size := by have := HB1.out.2.1; have := HB2.out.size; omega
  go_wp2_with fail
  clear u0 u1 u2 u3 u4
  obtain ⟨W3, hW3⟩ : ∃ Z, W2.alloc (.cells #[.int .u8 165, .int .u8 k, .int .u8 fr] 5) = Z := ⟨_, rfl⟩
  rw [hW3]
  have HB3 : Hid (Below W1.heap.size W1 W3) := by
    rw [← hW3]; exact HB2.out.trans (((Below.refl _ W2).alloc (Nat.le_refl _) _).mono HB2.out.size)
  have HO3 : Hid (OB W3 W1.heap.size (.slice (some ⟨W2.heap.size, 0, none⟩) 3 3) [165, UInt8.ofNat k.toNat, UInt8.ofNat fr.toNat]) := by
    rw [← hW3]; exact own_three W2 _ k fr (by omega) (by omega) HB2.out.size
  clear hW3 HB2
  refine Calls.mono (lay_any HO3.out t 6 (by omega) (by omega) (by omega) (by omega) HT.out.1 (by simp) HB3.out.size) ?_
  rintro e W4 ⟨v4, rfl, ho, hb⟩
  have HB4 : Hid (Below W1.heap.size W1 W4) := HB3.out.trans hb
  have HO4 : Hid (OB W4 W1.heap.size v4 ([165, UInt8.ofNat k.toNat, UInt8.ofNat fr.toNat] ++ putL 6 t)) := ho
  have hF := HB1.out.2.2.below HB4.out
  have u3 := hF.c3
  have u4 := hF.c4
  clear ho hb hF HO3 HB3 hlt
  have hlt : w.heap.size < W4.heap.size := by have := HB1.out.2.1; have := HB4.out.size; omega
  obtain ⟨v5, W5, hr5, ho5, hb5⟩ := (HO4.out.below ((Below.refl _ W4).alloc (Nat.le_refl _) (.cells #[.int .u8 (zs.length : Int)] 5))).bytes (bs_one W4 zs.length (by omega)) 1 rfl (by simp [putL_len]) (by have := HB4.out.size; simp; omega)
  have HX5 : Hid ((Builtin.append_ #[35, 35] 35 #[v4, .slice (some ⟨W4.heap.size, 0, none⟩) 1 1]).run Try.prog (W4.alloc (.cells #[.int .u8 (zs.length : Int)] 5)) = .ok v5 W5) := hr5
  have HB5 : Hid (Below W1.heap.size W1 W5) := HB4.out.trans ((((Below.refl _ W4).alloc (Nat.le_refl _) _).mono HB4.out.size).trans hb5)
  have HO5 : Hid (OB W5 W1.heap.size v5 (headL ⟨k, fr, t, zs, d⟩ ++ numsL (zs.take 0))) := by
    have e : headL ⟨k, fr, t, zs, d⟩ ++ numsL (zs.take 0) = [165, UInt8.ofNat k.toNat, UInt8.ofNat fr.toNat] ++ putL 6 t ++ [UInt8.ofNat zs.length] := by
      rw [HFR.out.1]; simp [numsL]
    rw [e]; exact ho5
  clear hr5 ho5 hb5 HB4 HO4
  have hF5 := HB1.out.2.2.below HB5.out
  have x3 := hF5.c3
  clear hF5
  go_wp2_with (at_builtin; go_must (refine append_bytes (by rfl) _ _ (by rfl) (by rfl) _ _ _ _ (by rfl) (by rfl) HX5.out ?_))
  clear x3 u3 u4 hlt HX5
  go_loopw [5, 37] (fun v iv wr => ∃ i : Nat, i ≤ zs.length ∧ iv = .int .i64 i ∧ OB wr W1.heap.size v (headL ⟨k, fr, t, zs, d⟩ ++ numsL (zs.take i)) ∧ Below W1.heap.size W1 wr) (fun _ iv _ => zs.length - (intOf iv).toNat)
  case atStart => exact ⟨0, Nat.zero_le _, rfl, HO5.out, HB5.out⟩
  case round =>
    clear HO5 HB5
    obtain ⟨i, hi, rfl, ho, hb⟩ := hrel
    have HI : Hid (OB wr W1.heap.size u5 (headL ⟨k, fr, t, zs, d⟩ ++ numsL (zs.take i)) ∧ Below W1.heap.size W1 wr) := ⟨ho, hb⟩
    clear ho hb
    by_cases hlt : i < zs.length
    · obtain ⟨b', off, rfl, hc⟩ := (HZ.out wr (HB1.out.1.trans (HI.out.2.mono HB1.out.1.size))).at0 (by omega)
      have hci := hc i hlt
      have hv := HV.out i hlt
      have HNX : Hid (numsL (zs.take (i + 1)) = numsL (zs.take i) ++ putL 8 (zs.getD i 0)) := numsL_succ zs i hlt
      clear hc
      generalize zs.getD i 0 = z at *
      have HFI : Hid (fitsB z 8 = true) := by
        unfold B64 at hv
        show fitsB z 8 = true
        unfold fitsB; simp; omega
      have HVZ : Hid (B64 z) := hv
      clear hv
      go_wp2_with fail
      refine Calls.mono (lay_any HI.out.1 z 8 HVZ.out.1 HVZ.out.2 (by omega) (by omega) HFI.out (by have := HNL.out i; have := HLN.out.1; rw [List.length_append]; omega) HI.out.2.size) ?_
      rintro e W6 ⟨v6, rfl, ho, hb⟩
      have HJ : Hid (OB W6 W1.heap.size v6 (headL ⟨k, fr, t, zs, d⟩ ++ numsL (zs.take (i + 1))) ∧ Below W1.heap.size W1 W6) := by
        refine ⟨?_, HI.out.2.trans hb⟩
        rw [HNX.out, ← List.append_assoc]; exact ho
      clear ho hb HI HNX HFI HVZ hci
      go_wp2
      go_roundw
      case rel => exact ⟨i + 1, by omega, by go_num, HJ.out.1, HJ.out.2⟩
      case measure => simp [intOf]; omega
    · have HI2 : Hid (OB wr W1.heap.size u5 (headL ⟨k, fr, t, zs, d⟩ ++ numsL zs) ∧ Below W1.heap.size W1 wr) := by
        have h := HI.out
        rw [List.take_of_length_le (by omega)] at h; exact h
      have hF := HB1.out.2.2.below HI.out.2
      have x4 := hF.c4
      clear hF HI
      go_wp2_with fail
      refine Calls.mono (lay_any HI2.out.1 M 2 (by omega) (by omega) (by omega) (by omega) HT.out.2 (by have := HNL.out zs.length; rw [List.take_length] at this; have := HLN.out.1; rw [List.length_append]; omega) HI2.out.2.size) ?_
      rintro e W6 ⟨v6, rfl, ho, hb⟩
      have HI6 : Hid (OB W6 W1.heap.size v6 ((headL ⟨k, fr, t, zs, d⟩ ++ numsL zs) ++ putL 2 M) ∧ Below W1.heap.size W1 W6) := ⟨ho, HI2.out.2.trans hb⟩
      have hF := HB1.out.2.2.below HI6.out.2
      have y4 := hF.c4
      clear hF ho hb HI2 x4
      obtain ⟨v7, W7, hr7, ho7, hb7⟩ := HI6.out.1.text s (by have := HNL.out zs.length; rw [List.take_length] at this; have := HLN.out.1; rw [List.length_append, List.length_append, putL_len]; omega) HI6.out.2.size
      have HX7 : Hid ((Builtin.append_ #[35, 9] 35 #[v6, .string s]).run Try.prog W6 = .ok v7 W7) := hr7
      have HI7 : Hid (OB W7 W1.heap.size v7 (bodyL ⟨k, fr, t, zs, d⟩) ∧ Below W1.heap.size W1 W7) := by
        refine ⟨?_, HI6.out.2.trans hb7⟩
        have e : bodyL ⟨k, fr, t, zs, d⟩ = ((headL ⟨k, fr, t, zs, d⟩ ++ numsL zs) ++ putL 2 M) ++ s.data.toList := by
          rw [HFR.out.2.1, hd]; simp
        rw [e]; exact ho7
      clear hr7 ho7 hb7 HI6
      obtain ⟨a7, cap7, e7, hbs, _, _⟩ := HI7.out.1.bs
      subst e7
      have hcv := hbs.back _ rfl
      have HS : Hid (Calls Try.prog 16 #[.string ⟨(bodyL ⟨k, fr, t, zs, d⟩).toArray⟩] W7 fun e w' => e = .returned (.int .i64 (4294967295 - (crcL (bodyL ⟨k, fr, t, zs, d⟩) : Int))) ∧ w' = W7) := by
        have := sum_any ⟨(bodyL ⟨k, fr, t, zs, d⟩).toArray⟩ W7 (by rw [size_text]; unfold maxLen; have := HLN.out.2; omega)
        exact this
      have hcl := crcL_lt (bodyL ⟨k, fr, t, zs, d⟩)
      have hln := HLN.out.2
      have HFin : Hid (frameL ⟨k, fr, t, zs, d⟩ = bodyL ⟨k, fr, t, zs, d⟩ ++ putL 5 (4294967295 - (crcL (bodyL ⟨k, fr, t, zs, d⟩) : Int))) := HFR.out.2.2
      clear hbs
      generalize crcL (bodyL ⟨k, fr, t, zs, d⟩) = C at *
      generalize bodyL ⟨k, fr, t, zs, d⟩ = B at *
      go_wp2_with (at_builtin; go_must (refine append_text (by rfl) _ _ (by rfl) (by rfl) _ _ _ _ (by rfl) (by rfl) HX7.out ?_))
      refine Calls.mono HS.out ?_
      rintro e w' ⟨rfl, hw⟩
      have hw' := hw.symm; subst hw'; clear hw
      go_wp2_with fail
      refine Calls.mono (lay_any HI7.out.1 (4294967295 - (C : Int)) 5 (by omega) (by omega) (by omega) (by omega) (by unfold fitsB; simp; omega) (by omega) HI7.out.2.size) ?_
      rintro e W8 ⟨v8, rfl, ho, hb⟩
      have HB8 : Hid (Below w.heap.size w W8) := HB1.out.1.trans ((HI7.out.2.trans hb).mono HB1.out.1.size)
      rw [← HFin.out] at ho
      obtain ⟨a8, cap8, e8, hbs, _, _⟩ := ho.bs
      subst e8
      have hcv8 := hbs.back _ rfl
      clear ho hb hbs hcv HS
      generalize hff : frameL ⟨k, fr, t, zs, d⟩ = ff at *
      have HFF : Hid (frameL ⟨k, fr, t, zs, d⟩ = ff) := hff
      clear hff
      go_wp2
      go_ret2
      exact ⟨by rw [HFF.out]; rfl, HB8.out⟩
theorem put_any (f : FrV) {w : World} {a : Option Addr} {cap : Nat} (hz : IntRow w a f.zs) (hf : ∀ z ∈ f.zs, -9223372036854775808 ≤ z ∧ z ≤ 9223372036854775807) :
    Calls Try.prog 8 #[frOf f (.slice a f.zs.length cap)] w fun e w' => e = .returned (.tuple #[.string ⟨(if f.err = 0 then frameL f else []).toArray⟩, .int .i64 f.err]) ∧ Below w.heap.size w w' := by
  by_cases h0 : f.err = 0
  · rw [if_pos h0, h0]; exact put_good f h0 hz hf
  · rw [if_neg h0]; exact put_not f h0
end Go.Proofs.Ytglkoedmonenoaa
