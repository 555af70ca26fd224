/- The contracts of tree's Valid, of kinds' atom, interval, part. Conditions: names of at most 2^63 - 1 bytes, few terms and nodes; at most 1000 signals. -/
import Derived.Test.YtjnnjjajlafchaaKnI
import Derived.Test.YtjnnjjajlafchaaKnE
namespace Go.Proofs.Ytjnnjjajlafchaa
open Go.RowKit
set_option linter.unusedVariables false
set_option maxRecDepth 100000

def validB (l : List Nd) : Bool := decide (l.length ≤ 300) && (match restD 24 l with | some r => r.length == 0 | none => false)
set_option maxHeartbeats 1000000 in
theorem valid_any (a : Option Addr) (cap : Nat) (l : List Nd) (W : World) (h : NodeRow W a l) (hcap : l.length ≤ cap) (hf : NodesFit l) (hl : l.length ≤ 9223372036854775807) :
    Calls Try.prog 30 #[.slice a l.length cap] W fun e W' => e = .returned (.bool (validB l)) ∧ Below W.heap.size W W' := by
  by_cases hb : l.length ≤ 300
  · have HE : Hid (validB l = (match restD 24 l with | some r => r.length == 0 | none => false)) := by simp [Hid, validB, hb]
    have HC := behind_any 24 0 (by omega) (by omega) a cap l W h hcap hf hl
    clear h hf
    go_enter Try.func30, Try.ntmps30
    go_wp2_with fail
    refine Calls.mono HC ?_
    rintro e W1 ⟨hb1, h1⟩
    have HB1 : Hid (Below W.heap.size W W1) := hb1
    clear hb1 HC
    rcases h1 with ⟨hn, rfl⟩ | ⟨r, a3, c3, hs3, _, hl3, rfl, hr3, hc3⟩
    · rw [hn] at HE
      clear hn
      go_wp2
      go_ret
      exact ⟨ret_bool HE.out.symm, HB1.out⟩
    · rw [hs3] at HE
      clear hs3 hr3
      by_cases h0 : r.length = 0
      · have HZ : Hid ((r.length == 0) = true) := by simp only [Hid]; rw [h0]; rfl
        have k0 : ((r.length : Int) == 0) = true := by rw [h0]; rfl
        clear h0
        go_wp2
        go_ret
        exact ⟨ret_bool (by rw [HE.out]; exact HZ.out.symm), HB1.out⟩
      · have HZ : Hid ((r.length == 0) = false) := by simp only [Hid]; rw [beq_eq_false_iff_ne]; exact h0
        have k0 : ((r.length : Int) == 0) = false := by rw [beq_eq_false_iff_ne]; omega
        clear h0
        go_wp2
        go_ret
        exact ⟨ret_bool (by rw [HE.out]; exact HZ.out.symm), HB1.out⟩
  · have HE : Hid (validB l = false) := by simp [Hid, validB, hb]
    clear h hf
    go_enter Try.func30, Try.ntmps30
    go_wp2
    go_ret
    exact ⟨ret_bool HE.out.symm, Below.refl _ _⟩

def intervalE (fr to : Int) : Int := if (to ≠ -1 ∧ to < fr) ∨ 1000 < fr ∨ 1000 < to then 42 else 0
set_option maxHeartbeats 1000000 in
theorem interval_any (fr to : Int) (w : World) : Calls Try.prog 50 #[.int .i64 fr, .int .i64 to] w fun e w' => e = .returned (.int .i64 (intervalE fr to)) ∧ w' = w := by
  by_cases h1 : to = -1
  · subst h1
    by_cases h2 : 1000 < fr
    · have HE : Hid (intervalE fr (-1) = 42) := by simp only [Hid, intervalE]; rw [if_pos (by omega)]
      go_enter Try.func50, Try.ntmps50
      go_wp2
      go_ret
      exact ⟨ret_int HE.out.symm, rfl⟩
    · have HE : Hid (intervalE fr (-1) = 0) := by simp only [Hid, intervalE]; rw [if_neg (by omega)]
      go_enter Try.func50, Try.ntmps50
      go_wp2
      go_ret
      exact ⟨ret_int HE.out.symm, rfl⟩
  · have k1 : (to == -1) = false := by simpa using h1
    have k2 : (to != -1) = true := by simpa using h1
    by_cases h3 : to < fr
    · have HE : Hid (intervalE fr to = 42) := by simp only [Hid, intervalE]; rw [if_pos (by omega)]
      clear h1
      go_enter Try.func50, Try.ntmps50
      go_wp2
      go_ret
      exact ⟨ret_int HE.out.symm, rfl⟩
    · by_cases h2 : 1000 < fr
      · have HE : Hid (intervalE fr to = 42) := by simp only [Hid, intervalE]; rw [if_pos (by omega)]
        clear h1
        go_enter Try.func50, Try.ntmps50
        go_wp2
        go_ret
        exact ⟨ret_int HE.out.symm, rfl⟩
      · by_cases h4 : 1000 < to
        · have HE : Hid (intervalE fr to = 42) := by simp only [Hid, intervalE]; rw [if_pos (by omega)]
          clear h1
          go_enter Try.func50, Try.ntmps50
          go_wp2
          go_ret
          exact ⟨ret_int HE.out.symm, rfl⟩
        · have HE : Hid (intervalE fr to = 0) := by simp only [Hid, intervalE]; rw [if_neg (by omega)]
          clear h1
          go_enter Try.func50, Try.ntmps50
          go_wp2
          go_ret
          exact ⟨ret_int HE.out.symm, rfl⟩

theorem fld1 (n u : ByteArray) (l h : Int) (X : World) : (Instr.field 27 (.agg #[.string n, .string u, .int .i64 l, .int .i64 h]) 1).run Try.prog X = .ok (.string u) X := by kernel_rfl
theorem fld2 (n u : ByteArray) (l h : Int) (X : World) : (Instr.field 27 (.agg #[.string n, .string u, .int .i64 l, .int .i64 h]) 2).run Try.prog X = .ok (.agg #[.int .i64 l, .int .i64 h]) X := by kernel_rfl
def unitOf (l : List Sig) (s : ByteArray) : ByteArray := (l.getD (idxN l s) sig0).unit
def atomE (l : List Sig) (ts : List Tm) : Int := if ts.all (fun t => hasB l t.name) = false then 40 else if ts.all (fun t => eqS (unitOf l t.name) (unitOf l (ts.getD 0 tm0).name)) = false then 41 else 0
theorem allP_take (p : Tm → Bool) (l : List Tm) (k : Nat) (hk : k < l.length) : (l.take (k + 1)).all p = ((l.take k).all p && p (l.getD k tm0)) := by
  rw [List.take_succ_eq_append_getElem hk, List.all_append]
  simp [List.getD_eq_getElem?_getD, hk]
theorem allP_bad (p : Tm → Bool) (l : List Tm) (k : Nat) (hk : k < l.length) (h : p (l.getD k tm0) = false) : l.all p = false := by
  rw [List.all_eq_false]
  refine ⟨l[k], List.getElem_mem hk, ?_⟩
  simpa [List.getD_eq_getElem?_getD, hk] using h
theorem allP_at (p : Tm → Bool) (l : List Tm) (k : Nat) (hk : k < l.length) (h : l.all p = true) : p (l.getD k tm0) = true := by
  rw [List.all_eq_true] at h
  have := h l[k] (List.getElem_mem hk)
  simpa [List.getD_eq_getElem?_getD, hk] using this
theorem hasB_lt {l : List Sig} {s : ByteArray} (h : hasB l s = true) : idxN l s < l.length := by simpa [hasB] using h
set_option maxHeartbeats 4000000 in
theorem atom_any (p : Nat) (l : List Sig) (ta : Option Addr) (tc : Nat) (ts : List Tm) (W : World) (hp : NmAt W p l) (hl : l.length ≤ 1000000) (h : TermRow W ta ts) (hn : 0 < ts.length) (hm : ts.length ≤ 9223372036854775807) :
    Calls Try.prog 49 #[.pointer (some ⟨p, 0, none⟩), .slice ta ts.length tc] W fun e W' => e = .returned (.int .i64 (atomE l ts)) ∧ Below W.heap.size W W' := by
  have HP : Hid (∀ X, Below W.heap.size W X → NmAt X p l) := fun X hX => hp.below hX
  have HR : Hid (TermRow W ta ts) := h
  clear hp h
  go_enter Try.func49, Try.ntmps49
  go_wp2
  go_loopw [12] (fun i wr => ∃ k : Nat, k ≤ ts.length ∧ i = .int .i64 k ∧ Below W.heap.size W wr ∧ (ts.take k).all (fun t => hasB l t.name) = true) (fun i _ => ts.length - (intOf i).toNat)
  case atStart => exact ⟨0, Nat.zero_le _, rfl, Below.refl _ _, rfl⟩
  case round =>
    obtain ⟨k, hk, rfl, hb, ha⟩ := hrel
    have HB : Hid (Below W.heap.size W wr) := hb
    have HA : Hid ((ts.take k).all (fun t => hasB l t.name) = true) := ha
    clear hb ha
    by_cases hlt : k < ts.length
    · obtain ⟨b, off, rfl, h0, h1⟩ := HR.out.below HB.out k hlt
      have HT : Hid ((ts.take (k + 1)).all (fun t => hasB l t.name) = ((ts.take k).all (fun t => hasB l t.name) && hasB l (ts.getD k tm0).name)) := allP_take _ ts k hlt
      have HTB : Hid (hasB l (ts.getD k tm0).name = false → ts.all (fun t => hasB l t.name) = false) := fun q => allP_bad _ ts k hlt q
      generalize ts.getD k tm0 = t at *
      obtain ⟨tn, tt⟩ := t
      simp only at h0 h1 HT HTB
      have HB2 : Hid (Below W.heap.size W (wr.alloc (.cells #[.string tn, .int .i64 tt] 74))) := HB.out.alloc HB.out.size _
      have HH := has_any p l tn _ (HP.out _ HB2.out) hl
      cases b1 : hasB l tn with
      | false =>
        rw [b1] at HH
        have HZ : Hid (atomE l ts = 40) := by simp only [Hid, atomE]; rw [if_pos (HTB.out b1)]
        clear b1
        go_wp2_with fail
        refine Calls.mono HH ?_
        rintro e W3 ⟨rfl, hb3⟩
        have HB3 : Hid (Below W.heap.size W W3) := HB2.out.trans (hb3.mono HB2.out.size)
        clear hb3 HH
        go_wp2
        go_ret
        exact ⟨ret_int HZ.out.symm, HB3.out⟩
      | true =>
        rw [b1] at HH HT
        clear b1
        go_wp2_with fail
        refine Calls.mono HH ?_
        rintro e W3 ⟨rfl, hb3⟩
        have HB3 : Hid (Below W.heap.size W W3) := HB2.out.trans (hb3.mono HB2.out.size)
        clear hb3 HH
        go_wp2
        go_roundw
        case rel => exact ⟨k + 1, by omega, by go_num, HB3.out, by rw [HT.out, HA.out]; rfl⟩
        case measure => simp [intOf]; omega
    · have hkk : k = ts.length := by omega
      have HZ : Hid (ts.all (fun t => hasB l t.name) = true) := by have := HA.out; rw [hkk, List.take_length] at this; exact this
      obtain ⟨b, off, rfl, h0, h1⟩ := HR.out.below HB.out 0 hn
      have hi0 := hasB_lt (allP_at (fun t => hasB l t.name) ts 0 hn HZ.out)
      have HH := named_any p l (ts.getD 0 tm0).name _ (HP.out _ HB.out) hl hi0
      have HU : Hid ((l.getD (idxN l (ts.getD 0 tm0).name) sig0).unit = unitOf l (ts.getD 0 tm0).name) := rfl
      have HE : Hid (atomE l ts = if ts.all (fun t => eqS (unitOf l t.name) (unitOf l (ts.getD 0 tm0).name)) = false then 41 else 0) := by simp only [Hid, atomE]; rw [if_neg (by rw [HZ.out]; simp)]
      clear hkk hi0 hk
      generalize (ts.getD 0 tm0).name = n0 at *
      generalize (ts.getD 0 tm0).times = t0 at *
      generalize unitOf l n0 = u0 at *
      generalize l.getD (idxN l n0) sig0 = s0 at *
      obtain ⟨sn, su, sl, sh⟩ := s0
      simp only at HH HU
      have hsu : su = u0 := HU.out
      subst hsu
      clear HU
      have hfl := fld1 sn su sl sh
      simp only [Nat.zero_mul, Nat.add_zero] at h0 h1
      go_wp2_with fail
      refine Calls.mono HH ?_
      rintro e W3 ⟨rfl, hb3⟩
      have HB3 : Hid (Below W.heap.size W W3) := HB.out.trans (hb3.mono HB.out.size)
      clear hb3 HH h0 h1 hlt HA HB
      go_wp2
      clear hfl
      go_loopw [31] (fun i wr => ∃ k : Nat, k ≤ ts.length ∧ i = .int .i64 k ∧ Below W.heap.size W wr ∧ (ts.take k).all (fun t => eqS (unitOf l t.name) su) = true) (fun i _ => ts.length - (intOf i).toNat)
      case atStart => exact ⟨0, Nat.zero_le _, rfl, HB3.out, rfl⟩
      case round =>
        obtain ⟨k, hk, rfl, hb, ha⟩ := hrel
        have HB : Hid (Below W.heap.size W wr) := hb
        have HA : Hid ((ts.take k).all (fun t => eqS (unitOf l t.name) su) = true) := ha
        clear hb ha
        by_cases hlt : k < ts.length
        · obtain ⟨b', off', he', h0, h1⟩ := HR.out.below HB.out k hlt
          cases he'
          have HT : Hid ((ts.take (k + 1)).all (fun t => eqS (unitOf l t.name) su) = ((ts.take k).all (fun t => eqS (unitOf l t.name) su) && eqS (unitOf l (ts.getD k tm0).name) su)) := allP_take (fun t => eqS (unitOf l t.name) su) ts k hlt
          have HTB : Hid (eqS (unitOf l (ts.getD k tm0).name) su = false → ts.all (fun t => eqS (unitOf l t.name) su) = false) := fun q => allP_bad (fun t => eqS (unitOf l t.name) su) ts k hlt q
          have hik := hasB_lt (allP_at (fun t => hasB l t.name) ts k hlt HZ.out)
          generalize ts.getD k tm0 = t at *
          obtain ⟨tn, tt⟩ := t
          simp only at h0 h1 HT HTB hik
          have HB2 : Hid (Below W.heap.size W (wr.alloc (.cells #[.string tn, .int .i64 tt] 74))) := HB.out.alloc HB.out.size _
          have HH := named_any p l tn _ (HP.out _ HB2.out) hl hik
          have HU : Hid ((l.getD (idxN l tn) sig0).unit = unitOf l tn) := rfl
          clear hik
          generalize unitOf l tn = u1 at *
          generalize l.getD (idxN l tn) sig0 = s1 at *
          obtain ⟨xn, xu, xl, xh⟩ := s1
          simp only at HH HU
          have hxu : xu = u1 := HU.out
          subst hxu
          clear HU
          have hfl := fld1 xn xu xl xh
          cases b1 : eqS xu su with
          | false =>
            have HZ2 : Hid (atomE l ts = 41) := by show _ = _; rw [HE.out, if_pos (HTB.out b1)]
            have k1 : (xu.toList == su.toList) = false := b1
            have k2 : (xu.toList != su.toList) = true := by simp only [bne, k1]; rfl
            clear b1
            go_wp2_with fail
            refine Calls.mono HH ?_
            rintro e W3 ⟨rfl, hb3⟩
            have HB3 : Hid (Below W.heap.size W W3) := HB2.out.trans (hb3.mono HB2.out.size)
            clear hb3 HH
            go_wp2
            go_ret
            exact ⟨ret_int HZ2.out.symm, HB3.out⟩
          | true =>
            rw [b1] at HT
            have k1 : (xu.toList == su.toList) = true := b1
            have k2 : (xu.toList != su.toList) = false := by simp only [bne, k1]; rfl
            clear b1
            go_wp2_with fail
            refine Calls.mono HH ?_
            rintro e W3 ⟨rfl, hb3⟩
            have HB3 : Hid (Below W.heap.size W W3) := HB2.out.trans (hb3.mono HB2.out.size)
            clear hb3 HH
            go_wp2
            go_roundw
            case rel => exact ⟨k + 1, by omega, by go_num, HB3.out, by rw [HT.out, HA.out]; rfl⟩
            case measure => simp [intOf]; omega
        · have hkk : k = ts.length := by omega
          have HZ2 : Hid (atomE l ts = 0) := by
            show _ = _
            rw [HE.out, if_neg]
            have := HA.out; rw [hkk, List.take_length] at this; rw [this]; simp
          clear hkk
          go_wp2
          go_ret
          exact ⟨ret_int HZ2.out.symm, HB.out⟩
def partE (l : List Sig) (x : Nd) : Int := if x.op = 2 then atomE l x.terms else if x.op = 8 ∨ x.op = 9 ∨ x.op = 10 then intervalE x.fr x.to else 0
set_option maxHeartbeats 2000000 in
theorem part_any (p : Nat) (l : List Sig) (x : Nd) (ta : Option Addr) (tc : Nat) (W : World) (hp : NmAt W p l) (hl : l.length ≤ 1000000) (h : TermRow W ta x.terms) (hn : x.op = 2 → 0 < x.terms.length) (hm : x.terms.length ≤ 9223372036854775807) :
    Calls Try.prog 31 #[.pointer (some ⟨p, 0, none⟩), .agg #[.int .i64 x.op, .int .i64 x.n, .int .i64 x.fr, .int .i64 x.to, .slice ta x.terms.length tc, .int .i64 x.num]] W fun e W' => e = .returned (.int .i64 (partE l x)) ∧ Below W.heap.size W W' := by
  obtain ⟨op, n, fr, to, ts, num⟩ := x
  simp only at h hn hm
  have HB0 : Hid (Below W.heap.size W (W.alloc (.cells #[.int .i64 op, .int .i64 n, .int .i64 fr, .int .i64 to, .slice ta ts.length tc, .int .i64 num] 67))) := (Below.refl _ _).alloc (Nat.le_refl _) _
  by_cases h2 : op = 2
  · have HA := atom_any p l ta tc ts _ (hp.below HB0.out) hl (h.below HB0.out) (hn h2) hm
    subst h2
    have HE : Hid (partE l ⟨2, n, fr, to, ts, num⟩ = atomE l ts) := by simp [Hid, partE]
    clear hp h hn
    generalize atomE l ts = ae at *
    go_enter Try.func31, Try.ntmps31
    go_wp2_with fail
    refine Calls.mono HA ?_
    rintro e W3 ⟨rfl, hb3⟩
    have HB3 : Hid (Below W.heap.size W W3) := HB0.out.trans (hb3.mono HB0.out.size)
    clear hb3 HA
    go_wp2
    go_ret
    exact ⟨ret_int HE.out.symm, HB3.out⟩
  · clear hp h hn
    by_cases h3 : op = 8 ∨ op = 9 ∨ op = 10
    · have HE : Hid (partE l ⟨op, n, fr, to, ts, num⟩ = intervalE fr to) := by simp only [Hid, partE]; rw [if_neg h2, if_pos h3]
      have HI : Hid (∀ X, Calls Try.prog 50 #[.int .i64 fr, .int .i64 to] X fun e w' => e = .returned (.int .i64 (intervalE fr to)) ∧ w' = X) := fun X => interval_any fr to X
      clear h2
      generalize intervalE fr to = ae at *
      rcases h3 with rfl | rfl | rfl
      all_goals
        go_enter Try.func31, Try.ntmps31
        go_wp2_with (go_at_call 50; refine (HI.out _).mono ?_; rintro e w' ⟨rfl, hw9⟩; subst w')
        go_ret
        exact ⟨ret_int HE.out.symm, HB0.out⟩
    · have HE : Hid (partE l ⟨op, n, fr, to, ts, num⟩ = 0) := by simp only [Hid, partE]; rw [if_neg h2, if_neg h3]
      have k2 : (op == 2) = false := by simp; omega
      have k8 : (op == 8) = false := by simp; omega
      have k9 : (op == 9) = false := by simp; omega
      have k10 : (op == 10) = false := by simp; omega
      clear h2 h3
      go_enter Try.func31, Try.ntmps31
      go_wp2
      go_ret
      exact ⟨ret_int HE.out.symm, HB0.out⟩
end Go.Proofs.Ytjnnjjajlafchaa
