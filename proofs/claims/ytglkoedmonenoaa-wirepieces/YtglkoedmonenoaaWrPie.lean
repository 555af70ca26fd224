/- WirePieces: the law's walk. Conditions: numbers and lengths of 64 bits. -/
import Derived.Test.YtglkoedmonenoaaWrT
namespace Go.Proofs.Ytglkoedmonenoaa
open Go.RowKit
set_option linter.unusedVariables false
set_option maxRecDepth 100000

theorem i64_and63 (n : Int) : bits .and .i64 n 63 = n % 64 := by
  have h63 : (BitVec.ofInt 64 63).toNat = 2 ^ 6 - 1 := by decide
  have key : (BitVec.ofInt 64 n &&& BitVec.ofInt 64 63).toNat = (n % ((2 ^ 64 : Nat) : Int)).toNat % 2 ^ 6 := by
    rw [BitVec.toNat_and, BitVec.toNat_ofInt, h63, Nat.and_two_pow_sub_one_eq_mod]
  show IntKind.i64.wrap ((BitVec.ofInt 64 n &&& BitVec.ofInt 64 63).toNat : Nat) = n % 64
  rw [key, IntKind.wrap_i64]
  omega
set_option maxHeartbeats 1000000 in
theorem pieces_long (a : Option Addr) (n cap : Nat) (noise : ByteArray) (a2 : Option Addr) (m cap2 : Nat) (w : World) (hs : noise.size ≤ 140737488351232) (h : 12 < n ∨ 60 < m ∨ 40 < noise.size) :
    Calls Try.prog 6 #[.slice a n cap, .string noise, .slice a2 m cap2] w fun e w' => e = .returned (.bool true) ∧ Below w.heap.size w w' := by
  by_cases c1 : 12 < n
  · have c1' : decide ((12 : Int) < (n : Int)) = true := by simp; omega
    clear h
    go_enter Try.func6, Try.ntmps6
    go_wp2_with fail
    refine Calls.mono (alive_any _) ?_
    rintro e W2 ⟨rfl, hb⟩
    have HB2 : Hid (Below w.heap.size w W2) := hb
    clear hb
    go_wp2
    go_ret
    exact ⟨rfl, HB2.out⟩
  have c1' : decide ((12 : Int) < (n : Int)) = false := by simp; omega
  by_cases c2 : 60 < m
  · have c2' : decide ((60 : Int) < (m : Int)) = true := by simp; omega
    clear h
    go_enter Try.func6, Try.ntmps6
    go_wp2_with fail
    refine Calls.mono (alive_any _) ?_
    rintro e W2 ⟨rfl, hb⟩
    have HB2 : Hid (Below w.heap.size w W2) := hb
    clear hb
    go_wp2
    go_ret
    exact ⟨rfl, HB2.out⟩
  have c2' : decide ((60 : Int) < (m : Int)) = false := by simp; omega
  have c3 : 40 < noise.size := by omega
  have c3' : decide ((40 : Int) < (noise.size : Int)) = true := by simp; omega
  clear h
  go_enter Try.func6, Try.ntmps6
  go_wp2_with fail
  refine Calls.mono (alive_any _) ?_
  rintro e W2 ⟨rfl, hb⟩
  have HB2 : Hid (Below w.heap.size w W2) := hb
  clear hb
  go_wp2
  go_ret
  exact ⟨rfl, HB2.out⟩
theorem clean_snoc (s : ByteArray) (i : Nat) (h : i < s.size) (hc : Clean (s.data.toList.take i)) (hb : s[i] ≠ 165) : Clean (s.data.toList.take (i + 1)) := by
  rw [take_snoc s i h]
  intro c hc'
  rcases List.mem_append.1 hc' with q | q
  · exact hc c q
  · have : c = s[i] := by simpa using q
    rw [this]; exact hb
theorem text_app (x y : List UInt8) (s : ByteArray) : (⟨x.toArray⟩ : ByteArray) ++ (s ++ ⟨y.toArray⟩) = ⟨(x ++ (s.data.toList ++ y)).toArray⟩ := by
  apply ByteArray.ext
  simp
theorem rd_new (W : World) (B : Nat) (hB : B ≤ W.heap.size) : RdIs (W.alloc (.cells #[.slice none 0 0, .int .i64 0, .int .i64 0] 40)) B W.heap.size (.slice none 0 0) [] 0 :=
  ⟨[], 0, ⟨by simp [go_sem], by simp [go_sem], by simp [go_sem], fun i => World.frozen?_alloc_at _ _ _ _ (by simp), OB.nil _ _, fun _ => rfl, Nat.le_refl _, by simp, hB⟩, rfl, Nat.le_refl _⟩
/-- Where the law stands. -/
structure PieInv (w wr : World) (r : Nat) (N : List UInt8) (fs : List FrV) (k t : Nat) (v : Value) (rest : List UInt8) (lost : Nat) : Prop where
  rd : RdIs wr w.heap.size r v rest (lost : Int)
  bel : Below w.heap.size w wr
  st : Stands N fs k rest ((strS N fs).drop t) lost
  len : rest.length ≤ t
  atl : t ≤ (strS N fs).length
theorem PieInv.lost_le {w wr : World} {r : Nat} {N : List UInt8} {fs : List FrV} {k t : Nat} {v : Value} {rest : List UInt8} {lost : Nat} (h : PieInv w wr r N fs k t v rest lost) (h1 : fs.length ≤ 12) (h2 : N.length ≤ 40) : lost ≤ 1000 := by
  obtain ⟨M, j, _, q2, _, _, q5⟩ := h.st.ex
  have hk := h.st.le
  have : k * N.length ≤ 12 * 40 := Nat.mul_le_mul (by omega) h2
  omega
theorem PieInv.fed {w wr Y : World} {r : Nat} {N : List UInt8} {fs : List FrV} {k t t' : Nat} {v v' : Value} {rest : List UInt8} {lost : Nat} (h : PieInv w wr r N fs k t v rest lost) (ht : t ≤ t') (hl : t' ≤ (strS N fs).length) (hr : RdIs Y w.heap.size r v' (rest ++ ((strS N fs).drop t).take (t' - t)) (lost : Int)) (hb : Below w.heap.size wr Y) : PieInv w Y r N fs k t' v' (rest ++ ((strS N fs).drop t).take (t' - t)) lost := by
  refine ⟨hr, h.bel.trans hb, ?_, ?_, hl⟩
  · have q := h.st.fed (t' - t)
    rw [List.drop_drop, show t + (t' - t) = t' by omega] at q; exact q
  · have := h.len
    rw [List.length_append, List.length_take]; omega
theorem Mod.lowB {S : List Nat} {w x y : World} {B : Nat} (h : Mod S x y) (hB : B ≤ x.heap.size) (hS : ∀ i ∈ S, B ≤ i) : Below B x y :=
  ⟨h.os, h.tape, h.output, h.size, fun i hi => h.block i (by omega) fun hs => by have := hS i hs; omega⟩
theorem RdIs.lo {W : World} {B r : Nat} {v : Value} {l : List UInt8} {lost : Int} (h : RdIs W B r v l lost) : B ≤ r := by
  obtain ⟨H, G, h1, _⟩ := h.ex
  exact h1.lo
/-- The frames that were put. -/
structure PutInv2 (w wr : World) (fs : List FrV) (i : Nat) : Prop where
  bel : Below w.heap.size w wr
  ok : ∀ j, j < i → (fs.getD j ⟨0, 0, 0, [], []⟩).err = 0 ∧ (fs.getD j ⟨0, 0, 0, [], []⟩).d.length ≤ 300
set_option maxHeartbeats 8000000 in
theorem pieces_main (a : Option Addr) (xs : List FIn) (cap : Nat) (noise : ByteArray) (a2 : Option Addr) (zs : List Int) (cap2 : Nat) (w : World) (hF : FrRow w a xs) (hz : IntRow w a2 zs) (h1 : xs.length ≤ 12) (h2 : zs.length ≤ 60) (h3 : noise.size ≤ 40) :
    Calls Try.prog 6 #[.slice a xs.length cap, .string noise, .slice a2 zs.length cap2] w fun e w' => e = .returned (.bool true) ∧ Below w.heap.size w w' := by
  have HF : Hid (FrRow w a xs ∧ IntRow w a2 zs) := ⟨hF, hz⟩
  clear hF hz
  have c1' : decide ((12 : Int) < (xs.length : Int)) = false := by simp; omega
  have c2' : decide ((60 : Int) < (zs.length : Int)) = false := by simp; omega
  have c3' : decide ((40 : Int) < (noise.size : Int)) = false := by simp; omega
  go_enter Try.func6, Try.ntmps6
  go_wp2
  go_loop [7] (fun iv => ∃ i : Nat, i ≤ noise.size ∧ iv = .int .i64 i ∧ Clean (noise.data.toList.take i)) (fun iv => noise.size - (intOf iv).toNat)
  case atStart => exact ⟨0, Nat.zero_le _, rfl, by intro c hc; simp at hc⟩
  case round =>
    obtain ⟨i, hi, rfl, hcl⟩ := hrel
    have HC : Hid (Clean (noise.data.toList.take i)) := hcl
    clear hcl
    by_cases hlt : i < noise.size
    · have HS : Hid (noise[i] ≠ 165 → Clean (noise.data.toList.take (i + 1))) := fun q => clean_snoc noise i hlt HC.out q
      by_cases hb : noise[i] = 165
      · clear HS HC
        go_wp2_with fail
        refine Calls.mono (alive_any _) ?_
        rintro e W2 ⟨rfl, hb2⟩
        have HB2 : Hid (Below w.heap.size w W2) := hb2
        clear hb2
        go_wp2
        go_ret
        exact ⟨rfl, HB2.out⟩
      · have HN : Hid (Clean (noise.data.toList.take (i + 1))) := HS.out hb
        have hb' : (((noise[i]).toNat : Int) == 165) = false := by
          rw [beq_eq_false_iff_ne]; intro e
          exact hb (UInt8.toNat_inj.1 (by simp; omega))
        clear HS HC hb
        go_wp2
        go_round
        case rel => exact ⟨i + 1, by omega, by go_num, HN.out⟩
        case measure => simp [intOf]; omega
    · have HCl : Hid (Clean noise.data.toList) := by
        have q := HC.out
        rw [List.take_of_length_le (by simp; omega)] at q; exact q
      clear HC
      obtain ⟨fs, hfs⟩ : ∃ fs : List FrV, xs.map FIn.f = fs := ⟨_, rfl⟩
      have HFS : Hid (fs.length = xs.length ∧ ∀ i, i < xs.length → fs.getD i ⟨0, 0, 0, [], []⟩ = (xs.getD i default).f) := by
        subst hfs
        refine ⟨by simp, fun i hi => ?_⟩
        simp [List.getD_eq_getElem?_getD, hi]
      have HI2 : Hid (PutInv2 w w fs 0) := ⟨Below.refl _ _, fun j hj => by omega⟩
      clear hfs
      go_wp2
      go_loopw [8, 9] (fun bv iv wr => ∃ i : Nat, i ≤ xs.length ∧ iv = .int .i64 i ∧ bv = .string ⟨(strS noise.data.toList (fs.take i)).toArray⟩ ∧ (strS noise.data.toList (fs.take i)).length ≤ i * 1200 ∧ PutInv2 w wr fs i) (fun _ iv _ => xs.length - (intOf iv).toNat)
      case atStart => exact ⟨0, Nat.zero_le _, rfl, by simp [strS, tailS], by simp [strS, tailS], HI2.out⟩
      case round =>
        clear HI2
        obtain ⟨i, hi, rfl, hbv, hbl, hI⟩ := hrel
        have HI : Hid (PutInv2 w wr fs i) := hI
        have HBL : Hid ((strS noise.data.toList (fs.take i)).length ≤ i * 1200) := hbl
        rw [← size_text] at hbl
        obtain ⟨bb, hbb⟩ : ∃ bb, (⟨(strS noise.data.toList (fs.take i)).toArray⟩ : ByteArray) = bb := ⟨_, rfl⟩
        rw [hbb] at hbv hbl
        subst hbv
        have hbz : bb.size ≤ 14400 := by omega
        have HBB : Hid ((⟨(strS noise.data.toList (fs.take i)).toArray⟩ : ByteArray) = bb) := hbb
        clear hI hbb hbl
        by_cases hlt : i < xs.length
        · obtain ⟨b', off, e, hc0⟩ := HF.out.1.at' i hlt
          subst e
          obtain ⟨hnum, h64, hnl⟩ := HF.out.1.nums i hlt
          have hc := hc0.below HI.out.bel
          have u0 := hc.c0
          have u1 := hc.c1
          have u2 := hc.c2
          have u3 := hc.c3
          have u4 := hc.c4
          have HP : Hid (∀ X, Below wr.heap.size wr X → Calls Try.prog 8 #[frOf (xs.getD i default).f (.slice (xs.getD i default).a (xs.getD i default).f.zs.length (xs.getD i default).cap)] X fun e w' => e = .returned (.tuple #[.string ⟨(if (xs.getD i default).f.err = 0 then frameL (xs.getD i default).f else []).toArray⟩, .int .i64 (xs.getD i default).f.err]) ∧ Below X.heap.size X w') := fun X hX =>
            put_any (xs.getD i default).f ((hnum.grow HI.out.bel).grow hX) h64
          have HFI : Hid (fs.getD i ⟨0, 0, 0, [], []⟩ = (xs.getD i default).f) := HFS.out.2 i hlt
          have hsz := size_text (xs.getD i default).f.d
          have HCF : Hid (FrC wr b' (off + i * 5) (xs.getD i default).f.k (xs.getD i default).f.fr (xs.getD i default).f.t (.slice (xs.getD i default).a (xs.getD i default).f.zs.length (xs.getD i default).cap) (.string ⟨(xs.getD i default).f.d.toArray⟩)) := hc
          clear hc0 hc hnum h64 hnl
          unfold frOf at HP
          generalize (xs.getD i default).a = fa at *
          generalize (xs.getD i default).cap = fc at *
          generalize (xs.getD i default).f = f at *
          obtain ⟨ds, hds⟩ : ∃ ds, (⟨f.d.toArray⟩ : ByteArray) = ds := ⟨_, rfl⟩
          rw [hds] at u4 HP HCF hsz
          clear hds
          by_cases h0 : f.err = 0
          · rw [h0, if_pos rfl] at HP
            have HE : Hid (f.err = 0) := h0
            clear h0
            have hfl := frameL_len f
            go_wp2_with fail
            refine Calls.mono (HP.out _ (Below.refl _ _)) ?_
            rintro e X ⟨rfl, hb⟩
            have HBX : Hid (Below w.heap.size w X) := HI.out.bel.trans (hb.mono HI.out.bel.size)
            have v4 := (HCF.out.below hb).c4
            clear hb u0 u1 u2 u3 u4 HP HCF
            by_cases hd : ds.size ≤ 300
            · have hd' : decide ((300 : Int) < (ds.size : Int)) = false := by simp; omega
              have hok := FrV.err_ok HE.out
              have hzl := hok.n
              obtain ⟨fb, hfb⟩ : ∃ fb, (⟨(frameL f).toArray⟩ : ByteArray) = fb := ⟨_, rfl⟩
              have hfz : fb.size ≤ 1150 := by rw [← hfb, size_text, hfl]; omega
              have HFB : Hid ((⟨(frameL f).toArray⟩ : ByteArray) = fb ∧ (frameL f).length ≤ 1150) := ⟨hfb, by rw [hfl]; omega⟩
              have HJ : Hid (PutInv2 w X fs (i + 1)) := by
                refine ⟨HBX.out, fun j hj => ?_⟩
                by_cases e : j = i
                · subst e; rw [HFI.out]; exact ⟨HE.out, by omega⟩
                · exact HI.out.ok j (by omega)
              have HST : Hid (fs.take (i + 1) = fs.take i ++ [f]) := by
                have hl := HFS.out.1
                have e := HFI.out
                rw [List.getD_eq_getElem?_getD, List.getElem?_eq_getElem (by omega)] at e
                show _ = _
                rw [List.take_add_one, List.getElem?_eq_getElem (by omega)]
                simp only [Option.getD_some] at e
                rw [e]; rfl
              rw [hfb]
              clear hfb hok hsz hfl HI HBX HE
              go_wp2
              go_roundw
              case rel =>
                refine ⟨i + 1, by omega, by go_num, ?_, ?_, HJ.out⟩
                · rw [HST.out, strS_snoc, ← text_app, HBB.out, HFB.out.1]
                · rw [HST.out, strS_snoc, List.length_append, List.length_append]
                  have q1 := HBL.out
                  have q2 := HFB.out.2
                  have q3 : noise.data.toList.length = noise.size := by simp
                  omega
              case measure => simp [intOf]; omega
            · have hd' : decide ((300 : Int) < (ds.size : Int)) = true := by simp; omega
              go_wp2_with fail
              refine Calls.mono (alive_any _) ?_
              rintro e W2 ⟨rfl, hb⟩
              have HB2 : Hid (Below w.heap.size w W2) := HBX.out.trans (hb.mono HBX.out.size)
              clear hb
              go_wp2
              go_ret
              exact ⟨rfl, HB2.out⟩
          · have h0' : (f.err != 0) = true := by simpa using h0
            rw [if_neg h0] at HP
            clear h0
            generalize f.err = E at *
            go_wp2_with fail
            refine Calls.mono (HP.out _ (Below.refl _ _)) ?_
            rintro e X ⟨rfl, hb⟩
            have HBX : Hid (Below w.heap.size w X) := HI.out.bel.trans (hb.mono HI.out.bel.size)
            clear hb u0 u1 u2 u3 u4 HP HCF
            go_wp2_with fail
            refine Calls.mono (alive_any _) ?_
            rintro e W2 ⟨rfl, hb⟩
            have HB2 : Hid (Below w.heap.size w W2) := HBX.out.trans (hb.mono HBX.out.size)
            clear hb
            go_wp2
            go_ret
            exact ⟨rfl, HB2.out⟩
        · have hie : i = xs.length := by omega
          have HOK : Hid (FsOk fs) := by
            refine ⟨fun f hf => ?_⟩
            obtain ⟨j, hj, rfl⟩ := List.mem_iff_getElem.1 hf
            have hl := HFS.out.1
            have e1 := HFS.out.2 j (by omega)
            have e2 := (HI.out.ok j (by omega)).1
            have e3 := (HF.out.1.nums j (by omega)).2.1
            rw [← e1] at e3
            rw [List.getD_eq_getElem?_getD, List.getElem?_eq_getElem hj] at e2 e3
            exact ⟨FrV.err_ok e2, e3⟩
          have HBBS : Hid ((⟨(strS noise.data.toList fs).toArray⟩ : ByteArray) = bb) := by
            have q := HBB.out
            rw [List.take_of_length_le (by have := HFS.out.1; omega)] at q; exact q
          have HBW : Hid (Below w.heap.size w wr) := HI.out.bel
          clear HI HBB HBL hie
          have HBW2 : Hid (PieInv w (wr.alloc (.cells #[.slice none 0 0, .int .i64 0, .int .i64 0] 40)) wr.heap.size noise.data.toList fs 0 0 (.slice none 0 0) [] 0) := by
            have hb := (Below.refl wr.heap.size wr).alloc (Nat.le_refl _) (.cells #[.slice none 0 0, .int .i64 0, .int .i64 0] 40)
            exact ⟨rd_new wr _ HBW.out.size, HBW.out.trans (hb.mono HBW.out.size), by simpa using Stands.start noise.data.toList fs, by simp, by simp⟩
          have hsl : (strS noise.data.toList fs).length = bb.size := by rw [← HBBS.out, size_text]
          have HSL : Hid ((strS noise.data.toList fs).length = bb.size) := hsl
          clear hsl
          obtain ⟨r, hr⟩ : ∃ r, wr.heap.size = r := ⟨_, rfl⟩
          go_wp2
          rw [hr] at HBW2
          clear HBW hr
          go_loopw [13, 14, 15] (fun kv tv iv wr3 => ∃ (i t k : Nat) (v : Value) (rest : List UInt8) (lost : Nat), i ≤ zs.length + 1 ∧ kv = .int .i64 k ∧ tv = .int .i64 t ∧ iv = .int .i64 i ∧ PieInv w wr3 r noise.data.toList fs k t v rest lost ∧ (i = zs.length + 1 → k = fs.length ∧ lost = fs.length * noise.data.toList.length)) (fun _ _ iv _ => zs.length + 1 - (intOf iv).toNat)
          case atStart => exact ⟨0, 0, 0, _, _, _, by omega, rfl, rfl, rfl, HBW2.out, fun e => by omega⟩
          case round =>
            clear HBW2
            obtain ⟨i, t, k, v, rest, lost, hi, rfl, rfl, rfl, hP, hlast⟩ := hrel
            have HPI : Hid (PieInv w wr r noise.data.toList fs k t v rest lost) := hP
            have htl0 : t ≤ bb.size := by have := hP.atl; have := HSL.out; omega
            clear hP
            by_cases hlt : i ≤ zs.length
            · clear hlast
              by_cases hlz : i < zs.length
              · obtain ⟨c', coff, e, hcell⟩ := HF.out.2 i hlz
                subst e
                have hci := (Mod.of_below (S := []) (show Below w.heap.size w wr from HPI.out.bel)).cell hcell (by simp)
                have hand := i64_and63 (zs.getD i 0)
                obtain ⟨cc, hcc⟩ : ∃ cc : Nat, (zs.getD i 0) % 64 = (cc : Int) ∧ cc ≤ 63 := ⟨((zs.getD i 0) % 64).toNat, by omega, by omega⟩
                rw [hcc.1] at hand
                have hcc2 := hcc.2
                clear hcell hcc
                generalize zs.getD i 0 = z at *
                by_cases htm : t + cc ≤ bb.size
                · obtain ⟨t', ht'⟩ : ∃ t', t + cc = t' := ⟨_, rfl⟩
                  have htt : t ≤ t' := by omega
                  have htl : t' ≤ bb.size := by omega
                  have hadd : (t : Int) + (cc : Int) = (t' : Int) := by omega
                  clear htm ht'
                  go_wp2_with fail
                  have hb0 : Below wr.heap.size wr (wr.alloc (.cells #[.string (bb.extract t t')] 9)) := (Below.refl _ _).alloc (Nat.le_refl _) _
                  have HFD : Hid (Calls Try.prog 11 #[.pointer (some ⟨r, 0, none⟩), .slice (some ⟨wr.heap.size, 0, none⟩) 1 1] (wr.alloc (.cells #[.string (bb.extract t t')] 9)) fun e w' => e = .returned (.tuple #[]) ∧ ∃ v', PieInv w w' r noise.data.toList fs k t' v' (rest ++ ((strS noise.data.toList fs).drop t).take (t' - t)) lost) := by
                    have hsb : (bb.extract t t').data.toList = ((strS noise.data.toList fs).drop t).take (t' - t) := by rw [← HBBS.out]; simp []
                    have q := feed_any (HPI.out.rd.below hb0) (Nat.le_trans HPI.out.bel.size hb0.size) (some ⟨wr.heap.size, 0, none⟩) [bb.extract t t'] 1 (fun i hi => by
                      have h0 : i = 0 := by simpa using hi
                      subst h0
                      exact ⟨wr.heap.size, 0, rfl, by simp [go_sem]⟩) (fun x hx => by
                      cases hx
                      exact .inr ⟨.string (bb.extract t t'), by simp [go_sem], fun c e => (by cases e), fun a n c e => (by cases e)⟩) (by simp) (by
                      have q1 := HPI.out.len
                      simp [joinS]; omega)
                    refine Calls.mono q ?_
                    rintro e w' ⟨rfl, v', hR, hK⟩
                    have e1 : joinS [bb.extract t t'] = ((strS noise.data.toList fs).drop t).take (t' - t) := by simp only [joinS, List.flatMap_cons, List.flatMap_nil, List.append_nil]; exact hsb
                    rw [e1] at hR
                    refine ⟨rfl, v', HPI.out.fed htt (by rw [← size_text, HBBS.out]; exact htl) hR ?_⟩
                    exact (hb0.mono HPI.out.bel.size).trans ((hK.below (Nat.le_trans HPI.out.bel.size hb0.size)))
                  clear hb0
                  refine Calls.mono HFD.out ?_
                  rintro e Y ⟨rfl, v', hP⟩
                  have HP0 : Hid (PieInv w Y r noise.data.toList fs k t' v' (rest ++ ((strS noise.data.toList fs).drop t).take (t' - t)) lost) := hP
                  clear hP HFD HPI
                  go_wp2
                  go_loopw [13] (fun kv wz => ∃ (k : Nat) (v : Value) (rest : List UInt8) (lost : Nat), kv = .int .i64 k ∧ PieInv w wz r noise.data.toList fs k t' v rest lost) (fun kv _ => 13 - (intOf kv).toNat)
                  case atStart => exact ⟨k, _, _, lost, rfl, HP0.out⟩
                  case round =>
                    clear HP0
                    obtain ⟨k, v2, rest2, lost2, rfl, hP⟩ := hrel
                    have HP : Hid (PieInv w wr r noise.data.toList fs k t' v2 rest2 lost2) := hP
                    have hlo2 := hP.lost_le (by have := HFS.out.1; omega) (by simpa using h3)
                    have hkn : k ≤ xs.length := by have := hP.st.le; have := HFS.out.1; omega
                    clear hP
                    go_wp2_with fail
                    refine Calls.mono (next_any HP.out.rd HP.out.bel.size (by omega) (by omega)) ?_
                    rintro e Z ⟨u, v3, rfl, hN⟩
                    have hS := HP.out.st.next HCl.out HOK.out
                    rcases hN with ⟨hE, g, rfl, hin, hzr, hg, hT⟩ | ⟨hE, rfl, hT⟩
                    · rcases hS with ⟨_, hk, hRF, hSt⟩ | ⟨hE2, _⟩
                      · have hkx : k < xs.length := by have := HFS.out.1; omega
                        have hfk : readF (rest2.drop (skipL rest2)) = (xs.getD k default).f := by
                          rw [hRF hk, ← HFS.out.2 k hkx, List.getD_eq_getElem?_getD, List.getElem?_eq_getElem hk]; rfl
                        have HPN : Hid (PieInv w Z r noise.data.toList fs (k + 1) t' v3 ((rest2.drop (skipL rest2)).drop (readN (rest2.drop (skipL rest2)))) (lost2 + skipL rest2)) := by
                          refine ⟨?_, HP.out.bel.trans (hT.mod.lowB (w := w) HP.out.bel.size (by simpa using HP.out.rd.lo)), hSt, ?_, HP.out.atl⟩
                          · have q := hT.is
                            rw [show ((lost2 + skipL rest2 : Nat) : Int) = (lost2 : Int) + (skipL rest2 : Int) by omega]; exact q
                          · have := HP.out.len
                            rw [List.length_drop, List.length_drop]; omega
                        rw [hfk] at hin hzr ⊢
                        obtain ⟨b', off, e, hc0⟩ := HF.out.1.at' k hkx
                        subst e
                        obtain ⟨hnum, h64, hnl⟩ := HF.out.1.nums k hkx
                        have HC : Hid (FrC Z b' (off + k * 5) (xs.getD k default).f.k (xs.getD k default).f.fr (xs.getD k default).f.t (.slice (xs.getD k default).a (xs.getD k default).f.zs.length (xs.getD k default).cap) (.string ⟨(xs.getD k default).f.d.toArray⟩) ∧ IntRow Z (xs.getD k default).a (xs.getD k default).f.zs ∧ IntRow Z (some ⟨g, 0, none⟩) (xs.getD k default).f.zs ∧ (xs.getD k default).f.zs.length ≤ 9223372036854775807) := by
                          have q := HPN.out.bel
                          refine ⟨?_, ?_, hin, hnl⟩
                          · exact hc0.below ⟨q.os, q.tape, q.output, q.size, q.block⟩
                          · exact hnum.grow q
                        clear hE hfk hin hzr hg hT hk hRF hSt hc0 hnum h64 hnl HP
                        unfold frOf
                        generalize (xs.getD k default).a = fa at *
                        generalize (xs.getD k default).cap = fc at *
                        generalize (xs.getD k default).f = f at *
                        obtain ⟨f1, f2, f3, f4, f5⟩ := f
                        dsimp only at *
                        go_wp2_with fail
                        obtain ⟨Z2, hZ2⟩ : ∃ Q, Z.alloc (.cells #[.int .i64 f1, .int .i64 f2, .int .i64 f3, .slice (some ⟨g, 0, none⟩) f4.length f4.length, .string ⟨f5.toArray⟩] 26) = Q := ⟨_, rfl⟩
                        have hbz2 : Below Z.heap.size Z Z2 := by rw [← hZ2]; exact (Below.refl _ _).alloc (Nat.le_refl _) _
                        have hfz2 : FrAt Z2 Z.heap.size f1 f2 f3 (.slice (some ⟨g, 0, none⟩) f4.length f4.length) (.string ⟨f5.toArray⟩) := by rw [← hZ2]; exact frAt_new _ _ _ _ _ _
                        have HZ : Hid (Below Z.heap.size Z Z2 ∧ FrAt Z2 Z.heap.size f1 f2 f3 (.slice (some ⟨g, 0, none⟩) f4.length f4.length) (.string ⟨f5.toArray⟩)) := ⟨hbz2, hfz2⟩
                        rw [hZ2]
                        clear hZ2 hbz2 hfz2
                        refine pie_tail Z2 b' off xs.length cap k Z.heap.size f1 f2 f3 f1 f2 f3 (some ⟨g, 0, none⟩) fa f4.length f4.length fc ⟨f5.toArray⟩ ⟨f5.toArray⟩ _ _ _ _ _ _ _ _ _ _ _ _ _ _ _ _ _ _ _ _ _ _ _ _ _ _ _ _ _ _ _ _ _ _ _ _ _ _ _ _ _ _ _ _ _ _ _ _ _ _ _ _ _ _ _ _ _ _ _ _ _ _ _ _ _ _ _ _ _ _ _ _ _ _ _ _ _ _ _ _ _ _ _ _ _ _ _ _ _ _ _ _ _ _ _ _ _ _ _ _ _ _ _ _ _ _ _ _ _ _ _ _ _ _ _ _ _ _ _ _ _ _ _ _ _ _ _ _ _ _ _ _ _ _ _ _ _ _ _ _ _ _ _ _ HZ.out.2 (HC.out.1.below HZ.out.1) hkx (by omega) (fun X hX => ?_) (fun c a dd vv w h => by cases dd <;> exact h) ?_
                        · have hb := HZ.out.1.trans (hX.mono HZ.out.1.size)
                          have q := same_any ⟨f1, f2, f3, f4, f5⟩ ⟨f1, f2, f3, f4, f5⟩ (cap := f4.length) (cap2 := fc) (HC.out.2.2.1.grow hb) (HC.out.2.1.grow hb) HC.out.2.2.2 HC.out.2.2.2
                          rw [(FrV.same_iff _ _).2 rfl] at q
                          exact q
                        · intro X hX
                          have HPX : Hid (PieInv w X r noise.data.toList fs (k + 1) t' v3 ((rest2.drop (skipL rest2)).drop (readN (rest2.drop (skipL rest2)))) (lost2 + skipL rest2)) := by
                            have hb := HZ.out.1.trans (hX.mono HZ.out.1.size)
                            have q := HPN.out
                            exact ⟨q.rd.below hb, q.bel.trans (hb.mono q.bel.size), q.st, q.len, q.atl⟩
                          clear hX HZ HC HPN
                          go_wp2
                          go_roundw
                          case rel => exact ⟨k + 1, _, _, _, by go_num, HPX.out⟩
                          case measure => simp [intOf]; omega
                      · exact absurd hE hE2
                    · rcases hS with ⟨hE2, _⟩ | ⟨_, hSt, hfin⟩
                      · exact absurd hE2 hE
                      · have HPN : Hid (PieInv w Z r noise.data.toList fs k t' v3 (rest2.drop (skipL rest2)) (lost2 + skipL rest2) ∧ (((strS noise.data.toList fs).drop t' = []) → k = fs.length ∧ lost2 + skipL rest2 = fs.length * noise.data.toList.length)) := by
                          refine ⟨⟨?_, HP.out.bel.trans (hT.mod.lowB (w := w) HP.out.bel.size (by simpa using HP.out.rd.lo)), hSt, ?_, HP.out.atl⟩, hfin⟩
                          · have q := hT.is
                            rw [show ((lost2 + skipL rest2 : Nat) : Int) = (lost2 : Int) + (skipL rest2 : Int) by omega]; exact q
                          · have := HP.out.len
                            rw [List.length_drop]; omega
                        have HZB : Hid (Below Z.heap.size Z (Z.alloc (.cells #[.int .i64 0, .int .i64 0, .int .i64 0, .slice none 0 0, .string ⟨#[]⟩] 26))) := (Below.refl _ _).alloc (Nat.le_refl _) _
                        clear hE hT hSt hfin HP
                        go_wp2
                        go_roundw
                        case rel =>
                          have q := HPN.out.1
                          exact ⟨i + 1, t', k, v3, _, _, by omega, rfl, rfl, by go_num, ⟨q.rd.below HZB.out, q.bel.trans (HZB.out.mono q.bel.size), q.st, q.len, q.atl⟩, fun e => by omega⟩
                        case measure => simp [intOf]; omega
                · obtain ⟨t', ht'⟩ : ∃ t', bb.size = t' := ⟨_, rfl⟩
                  have htt : t ≤ t' := by omega
                  have htl : t' ≤ bb.size := by omega
                  go_wp2_with fail
                  have hb0 : Below wr.heap.size wr (wr.alloc (.cells #[.string (bb.extract t t')] 9)) := (Below.refl _ _).alloc (Nat.le_refl _) _
                  have HFD : Hid (Calls Try.prog 11 #[.pointer (some ⟨r, 0, none⟩), .slice (some ⟨wr.heap.size, 0, none⟩) 1 1] (wr.alloc (.cells #[.string (bb.extract t t')] 9)) fun e w' => e = .returned (.tuple #[]) ∧ ∃ v', PieInv w w' r noise.data.toList fs k t' v' (rest ++ ((strS noise.data.toList fs).drop t).take (t' - t)) lost) := by
                    have hsb : (bb.extract t t').data.toList = ((strS noise.data.toList fs).drop t).take (t' - t) := by rw [← HBBS.out]; simp []
                    have q := feed_any (HPI.out.rd.below hb0) (Nat.le_trans HPI.out.bel.size hb0.size) (some ⟨wr.heap.size, 0, none⟩) [bb.extract t t'] 1 (fun i hi => by
                      have h0 : i = 0 := by simpa using hi
                      subst h0
                      exact ⟨wr.heap.size, 0, rfl, by simp [go_sem]⟩) (fun x hx => by
                      cases hx
                      exact .inr ⟨.string (bb.extract t t'), by simp [go_sem], fun c e => (by cases e), fun a n c e => (by cases e)⟩) (by simp) (by
                      have q1 := HPI.out.len
                      simp [joinS]; omega)
                    refine Calls.mono q ?_
                    rintro e w' ⟨rfl, v', hR, hK⟩
                    have e1 : joinS [bb.extract t t'] = ((strS noise.data.toList fs).drop t).take (t' - t) := by simp only [joinS, List.flatMap_cons, List.flatMap_nil, List.append_nil]; exact hsb
                    rw [e1] at hR
                    refine ⟨rfl, v', HPI.out.fed htt (by rw [← size_text, HBBS.out]; exact htl) hR ?_⟩
                    exact (hb0.mono HPI.out.bel.size).trans ((hK.below (Nat.le_trans HPI.out.bel.size hb0.size)))
                  clear hb0
                  refine Calls.mono HFD.out ?_
                  rintro e Y ⟨rfl, v', hP⟩
                  have HP0 : Hid (PieInv w Y r noise.data.toList fs k t' v' (rest ++ ((strS noise.data.toList fs).drop t).take (t' - t)) lost) := hP
                  clear hP HFD HPI
                  go_wp2
                  go_loopw [13] (fun kv wz => ∃ (k : Nat) (v : Value) (rest : List UInt8) (lost : Nat), kv = .int .i64 k ∧ PieInv w wz r noise.data.toList fs k t' v rest lost) (fun kv _ => 13 - (intOf kv).toNat)
                  case atStart => exact ⟨k, _, _, lost, rfl, HP0.out⟩
                  case round =>
                    clear HP0
                    obtain ⟨k, v2, rest2, lost2, rfl, hP⟩ := hrel
                    have HP : Hid (PieInv w wr r noise.data.toList fs k t' v2 rest2 lost2) := hP
                    have hlo2 := hP.lost_le (by have := HFS.out.1; omega) (by simpa using h3)
                    have hkn : k ≤ xs.length := by have := hP.st.le; have := HFS.out.1; omega
                    clear hP
                    go_wp2_with fail
                    refine Calls.mono (next_any HP.out.rd HP.out.bel.size (by omega) (by omega)) ?_
                    rintro e Z ⟨u, v3, rfl, hN⟩
                    have hS := HP.out.st.next HCl.out HOK.out
                    rcases hN with ⟨hE, g, rfl, hin, hzr, hg, hT⟩ | ⟨hE, rfl, hT⟩
                    · rcases hS with ⟨_, hk, hRF, hSt⟩ | ⟨hE2, _⟩
                      · have hkx : k < xs.length := by have := HFS.out.1; omega
                        have hfk : readF (rest2.drop (skipL rest2)) = (xs.getD k default).f := by
                          rw [hRF hk, ← HFS.out.2 k hkx, List.getD_eq_getElem?_getD, List.getElem?_eq_getElem hk]; rfl
                        have HPN : Hid (PieInv w Z r noise.data.toList fs (k + 1) t' v3 ((rest2.drop (skipL rest2)).drop (readN (rest2.drop (skipL rest2)))) (lost2 + skipL rest2)) := by
                          refine ⟨?_, HP.out.bel.trans (hT.mod.lowB (w := w) HP.out.bel.size (by simpa using HP.out.rd.lo)), hSt, ?_, HP.out.atl⟩
                          · have q := hT.is
                            rw [show ((lost2 + skipL rest2 : Nat) : Int) = (lost2 : Int) + (skipL rest2 : Int) by omega]; exact q
                          · have := HP.out.len
                            rw [List.length_drop, List.length_drop]; omega
                        rw [hfk] at hin hzr ⊢
                        obtain ⟨b', off, e, hc0⟩ := HF.out.1.at' k hkx
                        subst e
                        obtain ⟨hnum, h64, hnl⟩ := HF.out.1.nums k hkx
                        have HC : Hid (FrC Z b' (off + k * 5) (xs.getD k default).f.k (xs.getD k default).f.fr (xs.getD k default).f.t (.slice (xs.getD k default).a (xs.getD k default).f.zs.length (xs.getD k default).cap) (.string ⟨(xs.getD k default).f.d.toArray⟩) ∧ IntRow Z (xs.getD k default).a (xs.getD k default).f.zs ∧ IntRow Z (some ⟨g, 0, none⟩) (xs.getD k default).f.zs ∧ (xs.getD k default).f.zs.length ≤ 9223372036854775807) := by
                          have q := HPN.out.bel
                          refine ⟨?_, ?_, hin, hnl⟩
                          · exact hc0.below ⟨q.os, q.tape, q.output, q.size, q.block⟩
                          · exact hnum.grow q
                        clear hE hfk hin hzr hg hT hk hRF hSt hc0 hnum h64 hnl HP
                        unfold frOf
                        generalize (xs.getD k default).a = fa at *
                        generalize (xs.getD k default).cap = fc at *
                        generalize (xs.getD k default).f = f at *
                        obtain ⟨f1, f2, f3, f4, f5⟩ := f
                        dsimp only at *
                        go_wp2_with fail
                        obtain ⟨Z2, hZ2⟩ : ∃ Q, Z.alloc (.cells #[.int .i64 f1, .int .i64 f2, .int .i64 f3, .slice (some ⟨g, 0, none⟩) f4.length f4.length, .string ⟨f5.toArray⟩] 26) = Q := ⟨_, rfl⟩
                        have hbz2 : Below Z.heap.size Z Z2 := by rw [← hZ2]; exact (Below.refl _ _).alloc (Nat.le_refl _) _
                        have hfz2 : FrAt Z2 Z.heap.size f1 f2 f3 (.slice (some ⟨g, 0, none⟩) f4.length f4.length) (.string ⟨f5.toArray⟩) := by rw [← hZ2]; exact frAt_new _ _ _ _ _ _
                        have HZ : Hid (Below Z.heap.size Z Z2 ∧ FrAt Z2 Z.heap.size f1 f2 f3 (.slice (some ⟨g, 0, none⟩) f4.length f4.length) (.string ⟨f5.toArray⟩)) := ⟨hbz2, hfz2⟩
                        rw [hZ2]
                        clear hZ2 hbz2 hfz2
                        refine pie_tail Z2 b' off xs.length cap k Z.heap.size f1 f2 f3 f1 f2 f3 (some ⟨g, 0, none⟩) fa f4.length f4.length fc ⟨f5.toArray⟩ ⟨f5.toArray⟩ _ _ _ _ _ _ _ _ _ _ _ _ _ _ _ _ _ _ _ _ _ _ _ _ _ _ _ _ _ _ _ _ _ _ _ _ _ _ _ _ _ _ _ _ _ _ _ _ _ _ _ _ _ _ _ _ _ _ _ _ _ _ _ _ _ _ _ _ _ _ _ _ _ _ _ _ _ _ _ _ _ _ _ _ _ _ _ _ _ _ _ _ _ _ _ _ _ _ _ _ _ _ _ _ _ _ _ _ _ _ _ _ _ _ _ _ _ _ _ _ _ _ _ _ _ _ _ _ _ _ _ _ _ _ _ _ _ _ _ _ _ _ _ _ HZ.out.2 (HC.out.1.below HZ.out.1) hkx (by omega) (fun X hX => ?_) (fun c a dd vv w h => by cases dd <;> exact h) ?_
                        · have hb := HZ.out.1.trans (hX.mono HZ.out.1.size)
                          have q := same_any ⟨f1, f2, f3, f4, f5⟩ ⟨f1, f2, f3, f4, f5⟩ (cap := f4.length) (cap2 := fc) (HC.out.2.2.1.grow hb) (HC.out.2.1.grow hb) HC.out.2.2.2 HC.out.2.2.2
                          rw [(FrV.same_iff _ _).2 rfl] at q
                          exact q
                        · intro X hX
                          have HPX : Hid (PieInv w X r noise.data.toList fs (k + 1) t' v3 ((rest2.drop (skipL rest2)).drop (readN (rest2.drop (skipL rest2)))) (lost2 + skipL rest2)) := by
                            have hb := HZ.out.1.trans (hX.mono HZ.out.1.size)
                            have q := HPN.out
                            exact ⟨q.rd.below hb, q.bel.trans (hb.mono q.bel.size), q.st, q.len, q.atl⟩
                          clear hX HZ HC HPN
                          go_wp2
                          go_roundw
                          case rel => exact ⟨k + 1, _, _, _, by go_num, HPX.out⟩
                          case measure => simp [intOf]; omega
                      · exact absurd hE hE2
                    · rcases hS with ⟨hE2, _⟩ | ⟨_, hSt, hfin⟩
                      · exact absurd hE2 hE
                      · have HPN : Hid (PieInv w Z r noise.data.toList fs k t' v3 (rest2.drop (skipL rest2)) (lost2 + skipL rest2) ∧ (((strS noise.data.toList fs).drop t' = []) → k = fs.length ∧ lost2 + skipL rest2 = fs.length * noise.data.toList.length)) := by
                          refine ⟨⟨?_, HP.out.bel.trans (hT.mod.lowB (w := w) HP.out.bel.size (by simpa using HP.out.rd.lo)), hSt, ?_, HP.out.atl⟩, hfin⟩
                          · have q := hT.is
                            rw [show ((lost2 + skipL rest2 : Nat) : Int) = (lost2 : Int) + (skipL rest2 : Int) by omega]; exact q
                          · have := HP.out.len
                            rw [List.length_drop]; omega
                        have HZB : Hid (Below Z.heap.size Z (Z.alloc (.cells #[.int .i64 0, .int .i64 0, .int .i64 0, .slice none 0 0, .string ⟨#[]⟩] 26))) := (Below.refl _ _).alloc (Nat.le_refl _) _
                        clear hE hT hSt hfin HP
                        go_wp2
                        go_roundw
                        case rel =>
                          have q := HPN.out.1
                          exact ⟨i + 1, t', k, v3, _, _, by omega, rfl, rfl, by go_num, ⟨q.rd.below HZB.out, q.bel.trans (HZB.out.mono q.bel.size), q.st, q.len, q.atl⟩, fun e => by omega⟩
                        case measure => simp [intOf]; omega
              · obtain ⟨t', ht'⟩ : ∃ t', bb.size = t' := ⟨_, rfl⟩
                have htt : t ≤ t' := by omega
                have htl : t' ≤ bb.size := by omega
                go_wp2_with fail
                have hb0 : Below wr.heap.size wr (wr.alloc (.cells #[.string (bb.extract t t')] 9)) := (Below.refl _ _).alloc (Nat.le_refl _) _
                have HFD : Hid (Calls Try.prog 11 #[.pointer (some ⟨r, 0, none⟩), .slice (some ⟨wr.heap.size, 0, none⟩) 1 1] (wr.alloc (.cells #[.string (bb.extract t t')] 9)) fun e w' => e = .returned (.tuple #[]) ∧ ∃ v', PieInv w w' r noise.data.toList fs k t' v' (rest ++ ((strS noise.data.toList fs).drop t).take (t' - t)) lost) := by
                  have hsb : (bb.extract t t').data.toList = ((strS noise.data.toList fs).drop t).take (t' - t) := by rw [← HBBS.out]; simp []
                  have q := feed_any (HPI.out.rd.below hb0) (Nat.le_trans HPI.out.bel.size hb0.size) (some ⟨wr.heap.size, 0, none⟩) [bb.extract t t'] 1 (fun i hi => by
                    have h0 : i = 0 := by simpa using hi
                    subst h0
                    exact ⟨wr.heap.size, 0, rfl, by simp [go_sem]⟩) (fun x hx => by
                    cases hx
                    exact .inr ⟨.string (bb.extract t t'), by simp [go_sem], fun c e => (by cases e), fun a n c e => (by cases e)⟩) (by simp) (by
                    have q1 := HPI.out.len
                    simp [joinS]; omega)
                  refine Calls.mono q ?_
                  rintro e w' ⟨rfl, v', hR, hK⟩
                  have e1 : joinS [bb.extract t t'] = ((strS noise.data.toList fs).drop t).take (t' - t) := by simp only [joinS, List.flatMap_cons, List.flatMap_nil, List.append_nil]; exact hsb
                  rw [e1] at hR
                  refine ⟨rfl, v', HPI.out.fed htt (by rw [← size_text, HBBS.out]; exact htl) hR ?_⟩
                  exact (hb0.mono HPI.out.bel.size).trans ((hK.below (Nat.le_trans HPI.out.bel.size hb0.size)))
                clear hb0
                refine Calls.mono HFD.out ?_
                rintro e Y ⟨rfl, v', hP⟩
                have HP0 : Hid (PieInv w Y r noise.data.toList fs k t' v' (rest ++ ((strS noise.data.toList fs).drop t).take (t' - t)) lost) := hP
                clear hP HFD HPI
                go_wp2
                go_loopw [13] (fun kv wz => ∃ (k : Nat) (v : Value) (rest : List UInt8) (lost : Nat), kv = .int .i64 k ∧ PieInv w wz r noise.data.toList fs k t' v rest lost) (fun kv _ => 13 - (intOf kv).toNat)
                case atStart => exact ⟨k, _, _, lost, rfl, HP0.out⟩
                case round =>
                  clear HP0
                  obtain ⟨k, v2, rest2, lost2, rfl, hP⟩ := hrel
                  have HP : Hid (PieInv w wr r noise.data.toList fs k t' v2 rest2 lost2) := hP
                  have hlo2 := hP.lost_le (by have := HFS.out.1; omega) (by simpa using h3)
                  have hkn : k ≤ xs.length := by have := hP.st.le; have := HFS.out.1; omega
                  clear hP
                  go_wp2_with fail
                  refine Calls.mono (next_any HP.out.rd HP.out.bel.size (by omega) (by omega)) ?_
                  rintro e Z ⟨u, v3, rfl, hN⟩
                  have hS := HP.out.st.next HCl.out HOK.out
                  rcases hN with ⟨hE, g, rfl, hin, hzr, hg, hT⟩ | ⟨hE, rfl, hT⟩
                  · rcases hS with ⟨_, hk, hRF, hSt⟩ | ⟨hE2, _⟩
                    · have hkx : k < xs.length := by have := HFS.out.1; omega
                      have hfk : readF (rest2.drop (skipL rest2)) = (xs.getD k default).f := by
                        rw [hRF hk, ← HFS.out.2 k hkx, List.getD_eq_getElem?_getD, List.getElem?_eq_getElem hk]; rfl
                      have HPN : Hid (PieInv w Z r noise.data.toList fs (k + 1) t' v3 ((rest2.drop (skipL rest2)).drop (readN (rest2.drop (skipL rest2)))) (lost2 + skipL rest2)) := by
                        refine ⟨?_, HP.out.bel.trans (hT.mod.lowB (w := w) HP.out.bel.size (by simpa using HP.out.rd.lo)), hSt, ?_, HP.out.atl⟩
                        · have q := hT.is
                          rw [show ((lost2 + skipL rest2 : Nat) : Int) = (lost2 : Int) + (skipL rest2 : Int) by omega]; exact q
                        · have := HP.out.len
                          rw [List.length_drop, List.length_drop]; omega
                      rw [hfk] at hin hzr ⊢
                      obtain ⟨b', off, e, hc0⟩ := HF.out.1.at' k hkx
                      subst e
                      obtain ⟨hnum, h64, hnl⟩ := HF.out.1.nums k hkx
                      have HC : Hid (FrC Z b' (off + k * 5) (xs.getD k default).f.k (xs.getD k default).f.fr (xs.getD k default).f.t (.slice (xs.getD k default).a (xs.getD k default).f.zs.length (xs.getD k default).cap) (.string ⟨(xs.getD k default).f.d.toArray⟩) ∧ IntRow Z (xs.getD k default).a (xs.getD k default).f.zs ∧ IntRow Z (some ⟨g, 0, none⟩) (xs.getD k default).f.zs ∧ (xs.getD k default).f.zs.length ≤ 9223372036854775807) := by
                        have q := HPN.out.bel
                        refine ⟨?_, ?_, hin, hnl⟩
                        · exact hc0.below ⟨q.os, q.tape, q.output, q.size, q.block⟩
                        · exact hnum.grow q
                      clear hE hfk hin hzr hg hT hk hRF hSt hc0 hnum h64 hnl HP
                      unfold frOf
                      generalize (xs.getD k default).a = fa at *
                      generalize (xs.getD k default).cap = fc at *
                      generalize (xs.getD k default).f = f at *
                      obtain ⟨f1, f2, f3, f4, f5⟩ := f
                      dsimp only at *
                      go_wp2_with fail
                      obtain ⟨Z2, hZ2⟩ : ∃ Q, Z.alloc (.cells #[.int .i64 f1, .int .i64 f2, .int .i64 f3, .slice (some ⟨g, 0, none⟩) f4.length f4.length, .string ⟨f5.toArray⟩] 26) = Q := ⟨_, rfl⟩
                      have hbz2 : Below Z.heap.size Z Z2 := by rw [← hZ2]; exact (Below.refl _ _).alloc (Nat.le_refl _) _
                      have hfz2 : FrAt Z2 Z.heap.size f1 f2 f3 (.slice (some ⟨g, 0, none⟩) f4.length f4.length) (.string ⟨f5.toArray⟩) := by rw [← hZ2]; exact frAt_new _ _ _ _ _ _
                      have HZ : Hid (Below Z.heap.size Z Z2 ∧ FrAt Z2 Z.heap.size f1 f2 f3 (.slice (some ⟨g, 0, none⟩) f4.length f4.length) (.string ⟨f5.toArray⟩)) := ⟨hbz2, hfz2⟩
                      rw [hZ2]
                      clear hZ2 hbz2 hfz2
                      refine pie_tail Z2 b' off xs.length cap k Z.heap.size f1 f2 f3 f1 f2 f3 (some ⟨g, 0, none⟩) fa f4.length f4.length fc ⟨f5.toArray⟩ ⟨f5.toArray⟩ _ _ _ _ _ _ _ _ _ _ _ _ _ _ _ _ _ _ _ _ _ _ _ _ _ _ _ _ _ _ _ _ _ _ _ _ _ _ _ _ _ _ _ _ _ _ _ _ _ _ _ _ _ _ _ _ _ _ _ _ _ _ _ _ _ _ _ _ _ _ _ _ _ _ _ _ _ _ _ _ _ _ _ _ _ _ _ _ _ _ _ _ _ _ _ _ _ _ _ _ _ _ _ _ _ _ _ _ _ _ _ _ _ _ _ _ _ _ _ _ _ _ _ _ _ _ _ _ _ _ _ _ _ _ _ _ _ _ _ _ _ _ _ _ HZ.out.2 (HC.out.1.below HZ.out.1) hkx (by omega) (fun X hX => ?_) (fun c a dd vv w h => by cases dd <;> exact h) ?_
                      · have hb := HZ.out.1.trans (hX.mono HZ.out.1.size)
                        have q := same_any ⟨f1, f2, f3, f4, f5⟩ ⟨f1, f2, f3, f4, f5⟩ (cap := f4.length) (cap2 := fc) (HC.out.2.2.1.grow hb) (HC.out.2.1.grow hb) HC.out.2.2.2 HC.out.2.2.2
                        rw [(FrV.same_iff _ _).2 rfl] at q
                        exact q
                      · intro X hX
                        have HPX : Hid (PieInv w X r noise.data.toList fs (k + 1) t' v3 ((rest2.drop (skipL rest2)).drop (readN (rest2.drop (skipL rest2)))) (lost2 + skipL rest2)) := by
                          have hb := HZ.out.1.trans (hX.mono HZ.out.1.size)
                          have q := HPN.out
                          exact ⟨q.rd.below hb, q.bel.trans (hb.mono q.bel.size), q.st, q.len, q.atl⟩
                        clear hX HZ HC HPN
                        go_wp2
                        go_roundw
                        case rel => exact ⟨k + 1, _, _, _, by go_num, HPX.out⟩
                        case measure => simp [intOf]; omega
                    · exact absurd hE hE2
                  · rcases hS with ⟨hE2, _⟩ | ⟨_, hSt, hfin⟩
                    · exact absurd hE2 hE
                    · have HPN : Hid (PieInv w Z r noise.data.toList fs k t' v3 (rest2.drop (skipL rest2)) (lost2 + skipL rest2) ∧ (((strS noise.data.toList fs).drop t' = []) → k = fs.length ∧ lost2 + skipL rest2 = fs.length * noise.data.toList.length)) := by
                        refine ⟨⟨?_, HP.out.bel.trans (hT.mod.lowB (w := w) HP.out.bel.size (by simpa using HP.out.rd.lo)), hSt, ?_, HP.out.atl⟩, hfin⟩
                        · have q := hT.is
                          rw [show ((lost2 + skipL rest2 : Nat) : Int) = (lost2 : Int) + (skipL rest2 : Int) by omega]; exact q
                        · have := HP.out.len
                          rw [List.length_drop]; omega
                      have HZB : Hid (Below Z.heap.size Z (Z.alloc (.cells #[.int .i64 0, .int .i64 0, .int .i64 0, .slice none 0 0, .string ⟨#[]⟩] 26))) := (Below.refl _ _).alloc (Nat.le_refl _) _
                      clear hE hT hSt hfin HP
                      go_wp2
                      go_roundw
                      case rel =>
                        have q := HPN.out.1
                        exact ⟨i + 1, t', k, v3, _, _, by omega, rfl, rfl, by go_num, ⟨q.rd.below HZB.out, q.bel.trans (HZB.out.mono q.bel.size), q.st, q.len, q.atl⟩, fun e => HPN.out.2 (List.drop_eq_nil_of_le (by rw [← size_text, HBBS.out]; omega))⟩
                      case measure => simp [intOf]; omega
            · have HLA : Hid (k = fs.length ∧ lost = fs.length * noise.data.toList.length) := hlast (by omega)
              clear hlast
              go_wp2_with fail
              refine Calls.mono (alive_any _) ?_
              rintro e W2 ⟨rfl, hb⟩
              have HB2 : Hid (Below w.heap.size w W2) := HPI.out.bel.trans (hb.mono HPI.out.bel.size)
              have HRD := HPI.out.rd.below hb
              have hkx : k = xs.length := by have := HLA.out.1; have := HFS.out.1; omega
              have hlq : (lost : Int) = (noise.size : Int) * (xs.length : Int) := by
                have q := HLA.out.2
                rw [HFS.out.1, show noise.data.toList.length = noise.size by simp] at q
                rw [q, Int.mul_comm]; simp
              have HLO : Hid (∀ X, X = W2 → Calls Try.prog 13 #[.pointer (some ⟨r, 0, none⟩)] X fun e w' => e = .returned (.int .i64 (lost : Int)) ∧ w' = X) := fun X e => by
                subst e
                obtain ⟨H, G, q1, _⟩ := HRD.ex
                exact lost_any q1
              subst hkx
              clear hb HRD HLA HPI
              go_wp2_with fail
              refine Calls.mono (HLO.out _ rfl) ?_
              rintro e w' ⟨rfl, hw⟩
              have hw' := hw.symm; subst hw'; clear hw
              have hm0 : (0 : Int) ≤ (noise.size : Int) * (xs.length : Int) := Int.mul_nonneg (by omega) (by omega)
              have hm1 : (noise.size : Int) * (xs.length : Int) ≤ 480 := by
                have : noise.size * xs.length ≤ 40 * 12 := Nat.mul_le_mul h3 h1
                have e : ((noise.size * xs.length : Nat) : Int) = (noise.size : Int) * (xs.length : Int) := by simp
                omega
              have hwr : wrap64 ((noise.size : Int) * (xs.length : Int)) = (noise.size : Int) * (xs.length : Int) := by unfold wrap64; omega
              rw [hlq]
              clear hlq HLO
              go_wp2
              go_ret
              exact ⟨rfl, HB2.out⟩
theorem pieces_any (a : Option Addr) (xs : List FIn) (cap : Nat) (noise : ByteArray) (a2 : Option Addr) (zs : List Int) (cap2 : Nat) (w : World) (hF : FrRow w a xs) (hs : noise.size ≤ 140737488351232) (hz : IntRow w a2 zs) :
    Calls Try.prog 6 #[.slice a xs.length cap, .string noise, .slice a2 zs.length cap2] w fun e w' => e = .returned (.bool true) ∧ Below w.heap.size w w' := by
  by_cases h : 12 < xs.length ∨ 60 < zs.length ∨ 40 < noise.size
  · exact pieces_long a xs.length cap noise a2 zs.length cap2 w hs h
  · exact pieces_main a xs cap noise a2 zs cap2 w hF hz (by omega) (by omega) (by omega)
end Go.Proofs.Ytglkoedmonenoaa
