/- The contract of kinds' New. Conditions: what came in; names of at most 2^63 - 1 bytes. -/
import Derived.Test.YtjnnjjajlafchaaNwC
namespace Go.Proofs.Ytjnnjjajlafchaa
open Go.RowKit
set_option linter.unusedVariables false
set_option maxRecDepth 100000

theorem hasP_names {ps qs : List PrV} (h : ps.map (·.name) = qs.map (·.name)) (s : ByteArray) : hasP ps s = hasP qs s := by
  have e : ∀ l : List PrV, hasP l s = (l.map (·.name)).any fun n => eqS n s := fun l => by unfold hasP; rw [List.any_map]; rfl
  rw [e, e, h]
theorem addPE_names {l : List Sig} {ps qs : List PrV} (h : ps.map (·.name) = qs.map (·.name)) (x : PrV) : addPE l ps x = addPE l qs x := by
  unfold addPE; rw [hasP_names h]
/-- The first error, and whose, of properties that are added behind others. -/
def propsE (l : List Sig) (acc : List PrV) : List PrV → Int × ByteArray
  | [] => (0, ⟨#[]⟩)
  | x :: r => if addPE l acc x = 0 then propsE l (acc ++ [x]) r else (addPE l acc x, x.name)
theorem propsE_take (l : List Sig) (ps : List PrV) (k : Nat) (hk : k < ps.length) (h : addPE l (ps.take k) (ps.getD k default) = 0) (he : propsE l [] ps = propsE l (ps.take k) (ps.drop k)) : propsE l [] ps = propsE l (ps.take (k + 1)) (ps.drop (k + 1)) := by
  rw [he, List.drop_eq_getElem_cons hk, List.take_succ_eq_append_getElem hk]
  have e : ps.getD k default = ps[k] := by simp [List.getD_eq_getElem?_getD, hk]
  rw [e] at h
  simp only [propsE]
  rw [if_pos h]
theorem propsE_bad (l : List Sig) (ps : List PrV) (k : Nat) (hk : k < ps.length) (h : addPE l (ps.take k) (ps.getD k default) ≠ 0) (he : propsE l [] ps = propsE l (ps.take k) (ps.drop k)) : propsE l [] ps = (addPE l (ps.take k) (ps.getD k default), (ps.getD k default).name) := by
  rw [he, List.drop_eq_getElem_cons hk]
  have e : ps.getD k default = ps[k] := by simp [List.getD_eq_getElem?_getD, hk]
  rw [e] at h ⊢
  simp only [propsE]
  rw [if_neg h]
/-- What New tells besides the sheet. -/
def newR (l : List Sig) (ps : List PrV) : Int × ByteArray := if (namesE l).1 ≠ 0 then namesE l else if 16 < ps.length then (2, ⟨#[]⟩) else propsE l [] ps
/-- What New tells. -/
def NewTells (W : World) (nm : ByteArray) (c s : Int) (l : List Sig) (ps : List PrV) (e : Ending) (W' : World) : Prop :=
  Below W.heap.size W W' ∧ (((newR l ps).1 ≠ 0 ∧ e = .returned (.tuple #[.pointer none, .int .i64 (newR l ps).1, .string (newR l ps).2])) ∨
    ((newR l ps).1 = 0 ∧ (namesE l).1 = 0 ∧ ∃ W1 q p v qs hd, e = .returned (.tuple #[.pointer (some ⟨q, 0, none⟩), .int .i64 0, .string ⟨#[]⟩]) ∧ ShInv W1 q p l hd W' v qs ∧ qs.map (·.name) = ps.map (·.name) ∧ qs.map (·.body) = ps.map (·.body) ∧ hd 1 = .string nm ∧ hd 2 = .int .i64 c ∧ hd 3 = .int .i64 s ∧ hd 4 = .slice none 0 0 ∧ W.heap.size ≤ q))
def hdOf (nm : ByteArray) (c s : Int) (j : Nat) : Value := if j = 1 then .string nm else if j = 2 then .int .i64 c else if j = 3 then .int .i64 s else .slice none 0 0
set_option maxHeartbeats 8000000 in
theorem new_any (nm : ByteArray) (c s : Int) (a : Option Addr) (cap : Nat) (l : List Sig) (pa : Option Addr) (pc : Nat) (ps : List PrV) (W : World) (h : SigRow W a l) (hl : l.length ≤ 1000) (hs : ∀ x ∈ l, x.name.size ≤ 9223372036854775807)
    (hr : RowOf prC 2 W pa ps) (hk : ∀ x ∈ ps, PrKnown W x) (hpl : ps.length ≤ 9223372036854775807) :
    Calls Try.prog 11 #[.agg #[.string nm, .int .i64 c, .int .i64 s, .slice a l.length cap, .slice pa ps.length pc]] W (NewTells W nm c s l ps) := by
  have HB0 : Hid (Below W.heap.size W (W.alloc (.cells #[.string nm, .int .i64 c, .int .i64 s, .slice a l.length cap, .slice pa ps.length pc] 42))) := (Below.refl _ _).alloc (Nat.le_refl _) _
  have HN := newNames_any a cap l _ (h.below HB0.out) hl hs
  have HK : Hid (∀ X, Below (W.alloc (.cells #[.string nm, .int .i64 c, .int .i64 s, .slice a l.length cap, .slice pa ps.length pc] 42)).heap.size (W.alloc (.cells #[.string nm, .int .i64 c, .int .i64 s, .slice a l.length cap, .slice pa ps.length pc] 42)) X → ∀ j, X.cell? ⟨W.heap.size, j, none⟩ = (W.alloc (.cells #[.string nm, .int .i64 c, .int .i64 s, .slice a l.length cap, .slice pa ps.length pc] 42)).cell? ⟨W.heap.size, j, none⟩) := fun X hX j => hX.cell (p := ⟨W.heap.size, j, none⟩) (by simp)
  have HPR : Hid (∀ X, Below W.heap.size W X → RowOf prC 2 X pa ps ∧ ∀ x ∈ ps, PrKnown X x) := fun X hX => ⟨hr.below prC_len hX, fun x hx => (hk x hx).below hX⟩
  clear h hs hr hk
  go_enter Try.func11, Try.ntmps11
  go_wp2_with fail
  refine Calls.mono HN ?_
  rintro e W1 ⟨hb1, h1⟩
  have HB1 : Hid (Below W.heap.size W W1) := HB0.out.trans (hb1.mono HB0.out.size)
  have e0 : W1.cell? ⟨W.heap.size, 0, none⟩ = some (.string nm) := by rw [HK.out _ hb1]; simp [go_sem]
  have e1 : W1.cell? ⟨W.heap.size, 1, none⟩ = some (.int .i64 c) := by rw [HK.out _ hb1]; simp [go_sem]
  have e2 : W1.cell? ⟨W.heap.size, 2, none⟩ = some (.int .i64 s) := by rw [HK.out _ hb1]; simp [go_sem]
  have e4 : W1.cell? ⟨W.heap.size, 4, none⟩ = some (.slice pa ps.length pc) := by rw [HK.out _ hb1]; simp [go_sem]
  clear hb1 HN
  rcases h1 with ⟨hz, rfl⟩ | ⟨hz, p, v, rfl, ho⟩
  · have HZ : Hid ((namesE l).1 ≠ 0) := hz
    have k1 : ((namesE l).1 == 0) = false := by simpa using hz
    have k2 : ((namesE l).1 != 0) = true := by simpa using hz
    have HW : Hid (NewTells W nm c s l ps (.returned (.tuple #[.pointer none, .int .i64 (namesE l).1, .string (namesE l).2])) W1) := ⟨HB1.out, .inl (by unfold newR; rw [if_pos hz]; exact ⟨hz, rfl⟩)⟩
    clear hz
    generalize (namesE l).1 = ne at *
    generalize (namesE l).2 = nw at *
    go_wp2
    refine bodyPost_ret (v := .tuple #[.pointer none, .int .i64 ne, .string nw]) (by simp [results, Try.results11, go_sem]) rfl HW.out
  · have hlt : W.heap.size < W1.heap.size := World.block_lt_of_cell? W1 ⟨W.heap.size, 0, none⟩ e0
    have HO : Hid (NmAt W1 p l) := ho.at
    have HZ : Hid ((namesE l).1 = 0) := hz
    clear ho hz
    by_cases hbig : 16 < ps.length
    · have HR : Hid (newR l ps = (2, ⟨#[]⟩)) := by simp only [Hid, newR]; rw [if_neg (by rw [HZ.out]; simp), if_pos hbig]
      go_wp2
      refine bodyPost_ret (v := .tuple #[.pointer none, .int .i64 2, .string ⟨#[]⟩]) (by simp [results, Try.results11, go_sem]) rfl ⟨HB1.out, .inl ?_⟩
      rw [HR.out]; exact ⟨by simp, rfl⟩
    · have HR : Hid (newR l ps = propsE l [] ps) := by simp only [Hid, newR]; rw [if_neg (by rw [HZ.out]; simp), if_neg hbig]
      have g4 : ∀ o, (W1.alloc o).cell? ⟨W.heap.size, 4, none⟩ = some (.slice pa ps.length pc) := fun o => by rw [cell_alloc_lt _ _ _ _ hlt]; exact e4
      have HI0 : Hid (ShInv W1 W1.heap.size p l (hdOf nm c s) (W1.alloc (.cells #[.pointer (some ⟨p, 0, none⟩), .string nm, .int .i64 c, .int .i64 s, .slice none 0 0, .slice none 0 0] 48)) (.slice none 0 0) []) :=
        ⟨(Below.refl _ _).alloc (Nat.le_refl _) _, rfl, HO.out, by simp [go_sem], fun j h1 h2 => by
          have : j = 1 ∨ j = 2 ∨ j = 3 ∨ j = 4 := by omega
          rcases this with rfl | rfl | rfl | rfl <;> simp [go_sem, hdOf], by simp [go_sem], by simp [go_sem], Own.nil _ _ _ _ _, by simp [Value.ownBlock]⟩
      go_wp2
      go_loopw [38] (fun i wr => ∃ k : Nat, k ≤ ps.length ∧ i = .int .i64 k ∧ ∃ pv qs, ShInv W1 W1.heap.size p l (hdOf nm c s) wr pv qs ∧ qs.map (·.name) = (ps.take k).map (·.name) ∧ qs.map (·.body) = (ps.take k).map (·.body) ∧ propsE l [] ps = propsE l (ps.take k) (ps.drop k)) (fun i _ => ps.length - (intOf i).toNat)
      case atStart => exact ⟨0, Nat.zero_le _, rfl, _, [], HI0.out, rfl, rfl, rfl⟩
      case round =>
        obtain ⟨k, hk, rfl, pv, qs, hi, hn1, hn2, he⟩ := hrel
        have HI : Hid (ShInv W1 W1.heap.size p l (hdOf nm c s) wr pv qs) := hi
        have HNM : Hid (qs.map (·.name) = (ps.take k).map (·.name)) := hn1
        have HBD : Hid (qs.map (·.body) = (ps.take k).map (·.body)) := hn2
        have HE : Hid (propsE l [] ps = propsE l (ps.take k) (ps.drop k)) := he
        have HBW : Hid (Below W.heap.size W wr) := HB1.out.trans (hi.bel.mono HB1.out.size)
        clear hi hn1 hn2 he
        by_cases hlt2 : k < ps.length
        · obtain ⟨hrow, hkn⟩ := HPR.out _ HBW.out
          obtain ⟨b, off, rfl, hc⟩ := hrow k hlt2
          have h0 := hc 0 (by omega)
          have h1 := hc 1 (by omega)
          simp only [prC, Nat.add_zero] at h0 h1
          have hql : qs.length ≤ 100 := by have := congrArg List.length HNM.out; simp at this; omega
          have HAD : Hid (∀ X, Below wr.heap.size wr X → Calls Try.prog 25 #[.pointer (some ⟨W1.heap.size, 0, none⟩), .agg #[.string (ps.getD k default).name, .slice (ps.getD k default).a (ps.getD k default).ys.length (ps.getD k default).cap]] X (AddTells W1 W1.heap.size p l (hdOf nm c s) X qs (ps.getD k default))) :=
            fun X hX => addProp_any W1 W1.heap.size p l _ X pv qs _ (HI.out.stays hX) ((hkn _ (by rw [List.getD_eq_getElem?_getD, List.getElem?_eq_getElem hlt2]; exact List.getElem_mem hlt2)).below hX) hl hql
          have HAE : Hid (addPE l qs (ps.getD k default) = addPE l (ps.take k) (ps.getD k default)) := addPE_names HNM.out _
          have HGO : Hid (addPE l (ps.take k) (ps.getD k default) = 0 → propsE l [] ps = propsE l (ps.take (k + 1)) (ps.drop (k + 1))) := fun z => propsE_take l ps k hlt2 z HE.out
          have HBAD : Hid (addPE l (ps.take k) (ps.getD k default) ≠ 0 → propsE l [] ps = (addPE l (ps.take k) (ps.getD k default), (ps.getD k default).name)) := fun z => propsE_bad l ps k hlt2 z HE.out
          have HTK : Hid (ps.take (k + 1) = ps.take k ++ [ps.getD k default]) := by
            show _ = _; rw [List.take_succ_eq_append_getElem hlt2]; simp [List.getD_eq_getElem?_getD, hlt2]
          clear hrow hkn hc
          generalize ps.getD k default = x at *
          obtain ⟨xn, xa, xc, ys⟩ := x
          simp at h0 h1
          simp only at HAD
          have HB2 : Hid (Below wr.heap.size wr (wr.alloc (.cells #[.string xn, .slice xa ys.length xc] 78))) := (Below.refl _ _).alloc (Nat.le_refl _) _
          go_wp2_with fail
          refine Calls.mono (HAD.out _ HB2.out) ?_
          rintro e W3 ⟨rfl, h3⟩
          rcases h3 with ⟨hne, hb3⟩ | ⟨hz, pv3, x3, hx1, hx2, hi3⟩
          · have c0 : W3.cell? ⟨wr.heap.size, 0, none⟩ = some (.string xn) := by rw [hb3.cell (p := ⟨wr.heap.size, 0, none⟩) (by simp)]; simp [go_sem]
            have HB3 : Hid (Below W.heap.size W W3) := HBW.out.trans ((HB2.out.trans (hb3.mono HB2.out.size)).mono HBW.out.size)
            have HF : Hid (propsE l [] ps = (addPE l qs ⟨xn, xa, xc, ys⟩, xn)) := by show _ = _; rw [HAE.out]; exact HBAD.out (by rw [← HAE.out]; exact hne)
            have HNE : Hid (addPE l qs ⟨xn, xa, xc, ys⟩ ≠ 0) := hne
            have k1 : (addPE l qs ⟨xn, xa, xc, ys⟩ == 0) = false := by simpa using hne
            have k2 : (addPE l qs ⟨xn, xa, xc, ys⟩ != 0) = true := by simpa using hne
            clear hb3 hne HAD HAE HBAD HGO
            generalize addPE l qs ⟨xn, xa, xc, ys⟩ = ae at *
            go_wp2
            go_region
            go_wp2
            refine bodyPost_ret (v := .tuple #[.pointer none, .int .i64 ae, .string xn]) (by simp [results, Try.results11, go_sem]) rfl ⟨HB3.out.drew, .inl ?_⟩
            rw [HR.out, HF.out]; exact ⟨HNE.out, rfl⟩
          · have HF : Hid (propsE l [] ps = propsE l (ps.take (k + 1)) (ps.drop (k + 1))) := HGO.out (by rw [← HAE.out]; exact hz)
            have HI3 : Hid (ShInv W1 W1.heap.size p l (hdOf nm c s) W3 pv3 (qs ++ [x3])) := hi3
            have HN3 : Hid ((qs ++ [x3]).map (·.name) = (ps.take (k + 1)).map (·.name)) := by show _ = _; rw [HTK.out, List.map_append, List.map_append, HNM.out]; simp [hx1]
            have HD3 : Hid ((qs ++ [x3]).map (·.body) = (ps.take (k + 1)).map (·.body)) := by show _ = _; rw [HTK.out, List.map_append, List.map_append, HBD.out]; simp [hx2]
            rw [hz]
            clear hx1 hx2 hi3 hz HAD HAE HBAD HGO
            go_wp2
            go_roundw
            case rel => exact ⟨k + 1, by omega, by go_num, _, _, HI3.out, HN3.out, HD3.out, HF.out⟩
            case measure => simp [intOf]; omega
        · have hkk : k = ps.length := by omega
          have HF : Hid (propsE l [] ps = (0, ⟨#[]⟩)) := by have := HE.out; rw [hkk, List.drop_length] at this; exact this
          have HN3 : Hid (qs.map (·.name) = ps.map (·.name)) := by have := HNM.out; rw [hkk, List.take_length] at this; exact this
          have HD3 : Hid (qs.map (·.body) = ps.map (·.body)) := by have := HBD.out; rw [hkk, List.take_length] at this; exact this
          clear hkk
          go_wp2
          refine bodyPost_ret (v := .tuple #[.pointer (some ⟨W1.heap.size, 0, none⟩), .int .i64 0, .string ⟨#[]⟩]) (by simp [results, Try.results11, go_sem]) rfl ⟨HBW.out, .inr ⟨?_, HZ.out, W1, W1.heap.size, p, pv, qs, hdOf nm c s, rfl, HI.out, HN3.out, HD3.out, rfl, rfl, rfl, rfl, by omega⟩⟩
          rw [HR.out, HF.out]
end Go.Proofs.Ytjnnjjajlafchaa
