/- Lists of lists that were made one by one; the contract of core's And. Conditions: at most 2^25 nodes and lists in all, of few terms with short names. The contract of core's once. Conditions: at most 2^20 nodes and lists in all, of few terms with short names. The contract of core's put. Conditions: at most 2^20 nodes and lists in all, of few terms with short names. The contract of core's norm. Conditions: trees of at most 300 nodes, of few terms with short names. -/
import Derived.Test.YtpgdkgilmcipkaaCp2
namespace Go.Proofs.Ytpgdkgilmcipkaa
open Go.RowKit Go.Maps Go.ChangeShapes
set_option linter.unusedVariables false
set_option maxRecDepth 100000

theorem good_mkL {op fr to : Int} {l : List (List Nd)} (h : ∀ n ∈ l, GoodN n) : GoodN (mkL op fr to l) := by
  intro x hx
  unfold mkL at hx
  rcases List.mem_cons.1 hx with rfl | hx
  · exact ⟨by simp, fun t ht => by simp at ht⟩
  · obtain ⟨n, hn, hx⟩ := List.mem_flatten.1 hx
    exact h n hn x hx
theorem good_one {op : Int} : GoodN [⟨op, 0, 0, 0, [], 0⟩] := by
  intro x hx
  simp only [List.mem_singleton] at hx
  subst hx
  exact ⟨by simp, fun t ht => by simp at ht⟩
theorem mkL_len (op fr to : Int) (l : List (List Nd)) : (mkL op fr to l).length = totN l + 1 := by unfold mkL; rw [List.length_cons, totN_flat]
theorem notL_good {n : List Nd} (h : GoodN n) : GoodN (notL n) := by
  unfold notL
  split
  · exact good_one
  · split
    · exact good_one
    · split
      · exact h.sub drop_sub
      · exact good_mkL fun m hm => by simp only [List.mem_singleton] at hm; subst hm; exact h
theorem notL_len (n : List Nd) : (notL n).length ≤ n.length + 1 := by
  unfold notL
  split
  · simp
  · split
    · simp
    · split
      · rw [List.length_drop]; omega
      · rw [mkL_len]; simp [totN]
theorem prevL_good {n : List Nd} (h : GoodN n) : GoodN (prevL n) := by
  unfold prevL
  split
  · exact good_one
  · exact good_mkL fun m hm => by simp only [List.mem_singleton] at hm; subst hm; exact h
theorem prevL_len (n : List Nd) : (prevL n).length ≤ n.length + 1 := by
  unfold prevL
  split
  · simp
  · rw [mkL_len]; simp [totN]
theorem sinceL_good {fr to : Int} {p q : List Nd} (h : GoodN p) (k : GoodN q) : GoodN (sinceL fr to p q) := by
  unfold sinceL
  split
  · exact good_one
  · split
    · exact k
    · split
      · exact k
      · split
        · exact good_one
        · exact good_mkL fun m hm => by
            simp only [List.mem_cons, List.not_mem_nil, or_false] at hm
            rcases hm with rfl | rfl
            · exact h
            · exact k
theorem sinceL_len (fr to : Int) (p q : List Nd) : (sinceL fr to p q).length ≤ p.length + q.length + 1 := by
  unfold sinceL
  split
  · simp
  · split
    · omega
    · split
      · omega
      · split
        · simp
        · rw [mkL_len]; simp [totN]
theorem addN_mem {M : List (List Nd)} {x y : List Nd} (h : y ∈ addN M x) : y ∈ M ∨ y = x := by
  unfold addN at h
  split at h
  · exact .inl h
  · rcases List.mem_append.1 h with h | h
    · exact .inl h
    · exact .inr (by simpa using h)
theorem foldN_mem {l : List (List Nd)} : ∀ {M : List (List Nd)} {y : List Nd}, y ∈ l.foldl addN M → y ∈ M ∨ y ∈ l := by
  induction l with
  | nil => intro M y h; exact .inl h
  | cons x l ih =>
    intro M y h
    rcases ih h with h | h
    · rcases addN_mem h with h | rfl
      · exact .inl h
      · exact .inr (by simp)
    · exact .inr (by simp [h])
theorem flatO_mem {l : List (List Nd)} {y : List Nd} (h : y ∈ flatO l) : ∃ x ∈ l, ∀ z ∈ y, z ∈ x := by
  unfold flatO at h
  rw [List.mem_flatMap] at h
  obtain ⟨x, hx, hy⟩ := h
  refine ⟨x, hx, ?_⟩
  split at hy
  · exact fun z hz => drop_sub z (splitL_sub hy z hz)
  · simp only [List.mem_singleton] at hy; subst hy; exact fun z hz => hz
theorem someN_mem {l : List (List Nd)} {y : List Nd} (h : y ∈ someN l) : ∃ x ∈ l, ∀ z ∈ y, z ∈ x := by
  rcases foldN_mem h with h | h
  · cases h
  · exact flatO_mem h
theorem orL_good {l : List (List Nd)} (h : ∀ n ∈ l, GoodN n) : GoodN (orL l) := by
  have hs : ∀ n ∈ someN l, GoodN n := fun n hn => by
    obtain ⟨x, hx, hz⟩ := someN_mem hn
    exact (h x hx).sub hz
  unfold orL
  split
  · exact good_one
  · split
    · exact good_one
    · split
      · intro x hx
        obtain ⟨n, hn, hx⟩ := List.mem_flatten.1 hx
        exact hs n hn x hx
      · exact good_mkL hs
theorem orL_len (l : List (List Nd)) : (orL l).length ≤ totN l + 1 := by
  have := (someN_tot l).1
  unfold orL
  split
  · simp
  · split
    · simp
    · split
      · rw [← totN_flat]; omega
      · rw [mkL_len]; omega
theorem map_notL_tot (l : List (List Nd)) : totN (l.map notL) ≤ totN l + l.length := by
  induction l with
  | nil => simp [totN]
  | cons x l ih =>
    have h1 : totN (notL x :: l.map notL) = (notL x).length + totN (l.map notL) := by simp [totN]
    have h2 : totN (x :: l) = x.length + totN l := by simp [totN]
    have := notL_len x
    rw [List.map_cons, h1, h2, List.length_cons]; omega
/-- What is made can be handed on. -/
theorem Makes.at {W W' : World} {l : List Nd} {v : Value} (h : Makes W l (.returned v) W') (hg : GoodN l) (hl : l.length ≤ 1099511627776) : ∃ a zs c, v = .slice a zs.length c ∧ NdsAt W' a c zs ∧ OwnN W' W.heap.size (.slice a zs.length c) zs ∧ zs.map (·.x) = l ∧ Below W.heap.size W W' := by
  obtain ⟨v', zs, e, ho, hz, hb⟩ := h
  cases e
  obtain ⟨a, c, rfl, _, _, _⟩ := ho.row.sl ndC_len default
  have hlen : zs.length = l.length := by rw [← hz, List.length_map]
  exact ⟨a, zs, c, rfl, (ho.at (by omega) fun z hzz => (hg z.x (by rw [← hz]; exact List.mem_map_of_mem hzz)).1).2, ho, hz, hb⟩
/-- Lists that were made, in a row of one's own. -/
structure Lists (W wr : World) (v : Value) (L : List LsV) : Prop where
  own : Own lsC 28 1 wr W.heap.size v L
  each : ∀ y ∈ L, OwnN wr W.heap.size (.slice y.a y.ys.length y.cap) y.ys ∧ ∀ g, v.ownBlock = some g → (Value.slice y.a y.ys.length y.cap).ownBlock ≠ some g ∧ ∀ z ∈ y.ys, (Value.slice z.ta z.x.terms.length z.tc).ownBlock ≠ some g
  bel : Below W.heap.size W wr
theorem Lists.start (W : World) : Lists W W (.slice none 0 0) [] := ⟨Own.nil _ _ _ _ _, (fun y hy => by cases hy), Below.refl _ _⟩
theorem Lists.below {W wr wr' : World} {v : Value} {L : List LsV} (h : Lists W wr v L) (k : Below wr.heap.size wr wr') : Lists W wr' v L :=
  ⟨h.own.below k, fun y hy => ⟨(h.each y hy).1.below k, (h.each y hy).2⟩, h.bel.trans (k.mono h.bel.size)⟩
/-- One list more that was made behind the others. -/
theorem Lists.push {W wr X : World} {v : Value} {L : List LsV} (h : Lists W wr v L) (hX : Below wr.heap.size wr X) (a : Option Addr) (zs : List NdV) (c : Nat) (ho : OwnN X wr.heap.size (.slice a zs.length c) zs) (hl : L.length ≤ 1073741824) :
    ∃ va vn vc Y, (Builtin.append_ #[39, 39] 39 #[v, .slice (some ⟨X.heap.size, 0, none⟩) 1 1]).run Try.prog (X.alloc (.cells #[.slice a zs.length c] 28)) = .ok (.slice va vn vc) Y ∧ Lists W Y (.slice va vn vc) (L ++ [⟨zs, a, c⟩]) := by
  have hb : Below X.heap.size X (X.alloc (.cells #[.slice a zs.length c] 28)) := (Below.refl _ _).alloc (Nat.le_refl _) _
  have h2 := (h.below hX).below hb
  have hws := h.bel.size
  have hxs := hX.size
  obtain ⟨v', Y, hr, hw, hg, hat⟩ := Own.append lsC_len lsC_one Try.underlying39 infoNodes rfl (by omega) (X.alloc (.cells #[.slice a zs.length c] 28)) W.heap.size v L h2.own ⟨zs, a, c⟩ X.heap.size
    (by intro j hj; obtain rfl : j = 0 := by omega
        simp [go_sem, lsC]) (by unfold maxLen; omega) (by omega) (by simp; omega)
  obtain ⟨va, vc, rfl, _⟩ := hw.sl lsC_len default
  have hmg := Mod.grown hg
  have hvl : ∀ g, v.ownBlock = some g → W.heap.size ≤ g ∧ g < wr.heap.size := fun g q => Own.lt h.own g q
  have ho2 := ho.below hb
  have hge : ∀ g ∈ v.ownBlock.toList, W.heap.size ≤ g := fun g q => (hvl g (by simpa using q)).1
  -- the new list's blocks lie behind wr
  have hnew : ∀ g, v.ownBlock = some g → (Value.slice a zs.length c).ownBlock ≠ some g ∧ ∀ z ∈ zs, (Value.slice z.ta z.x.terms.length z.tc).ownBlock ≠ some g := fun g q => by
    have := (hvl g q).2
    exact ⟨fun e => by have := (Own.lt ho.row g e).1; omega, fun z hz e => by have := (Own.lt (ho.terms z hz) g e).1; omega⟩
  have hall : ∀ y ∈ L ++ [(⟨zs, a, c⟩ : LsV)], OwnN (X.alloc (.cells #[.slice a zs.length c] 28)) W.heap.size (.slice y.a y.ys.length y.cap) y.ys ∧ ∀ g, v.ownBlock = some g → (Value.slice y.a y.ys.length y.cap).ownBlock ≠ some g ∧ ∀ z ∈ y.ys, (Value.slice z.ta z.x.terms.length z.tc).ownBlock ≠ some g := fun y hy => by
    rcases List.mem_append.1 hy with hy | hy
    · exact h2.each y hy
    · simp only [List.mem_singleton] at hy; subst hy
      exact ⟨ho2.lower hws, hnew⟩
  refine ⟨va, _, vc, Y, hr, hw, fun y hy => ?_, h2.bel.trans (hmg.belowOf h2.bel.size hge)⟩
  obtain ⟨q1, q2⟩ := hall y hy
  refine ⟨q1.mod hmg (fun g e => by simp; intro e2; exact (q2 g e2).1 e) (fun z hz g e => by simp; intro e2; exact (q2 g e2).2 z hz e), fun g e => ?_⟩
  rcases hat with e2 | e2
  · rw [e2] at e; exact q2 g e
  · rw [e2] at e
    cases e
    exact ⟨fun e3 => by have := (Own.lt q1.row _ e3).2; omega, fun z hz e3 => by have := (Own.lt (q1.terms z hz) _ e3).2; omega⟩
theorem Lists.lss {W wr : World} {a : Option Addr} {n c : Nat} {L : List LsV} (h : Lists W wr (.slice a n c) L) (hg : ∀ y ∈ L, GoodN y.nds) (hl : ∀ y ∈ L, y.ys.length ≤ 1099511627776) (hn : L.length ≤ 1099511627776) : n = L.length ∧ LssAt wr a c L := by
  obtain ⟨r1, r2, r3, _⟩ := Own.room lsC_len default h.own
  exact ⟨r1, Own.rows lsC_len h.own, r2, r3, hn, fun y hy => ((h.each y hy).1.at (hl y hy) fun z hz => (hg y hy z.x (List.mem_map_of_mem hz)).1).2⟩
set_option maxHeartbeats 8000000 in
theorem and_any (a : Option Addr) (cap : Nat) (K : List LsV) (W : World) (h : LssAt W a cap K) (hg : ∀ y ∈ K, GoodN y.nds) (ht : tot K + K.length ≤ 33554432) :
    Calls Try.prog 17 #[.slice a K.length cap] W (Makes W (andL (K.map LsV.nds))) := by
  have HK : Hid (LssAt W a cap K) := h
  have HG : Hid (∀ y ∈ K, GoodN y.nds) := hg
  have hlk : (K.map LsV.nds).length = K.length := List.length_map _
  have htn : totN (K.map LsV.nds) + K.length ≤ 33554432 := by rw [← tot_nds]; exact ht
  have HT : Hid (totN ((K.map LsV.nds).map notL) ≤ 33554432 ∧ K.length ≤ 33554432) := ⟨by have := map_notL_tot (K.map LsV.nds); rw [hlk] at this; omega, by omega⟩
  have HGN : Hid (∀ n ∈ (K.map LsV.nds).map notL, GoodN n) := fun n hn => by
    simp only [List.mem_map] at hn
    obtain ⟨m, ⟨y, hy, rfl⟩, rfl⟩ := hn
    exact notL_good (hg y hy)
  have HSTEP : Hid (∀ k, k < K.length → ((K.map LsV.nds).map notL).take (k + 1) = ((K.map LsV.nds).map notL).take k ++ [notL (K.getD k default).nds]) := fun k hk => by
    rw [take_getD [] _ k (by rw [List.length_map, hlk]; exact hk), map_getD notL [] [] (by rw [hlk]; exact hk), map_getD LsV.nds default [] hk]
  have HAL : Hid (((K.map LsV.nds).map notL).take K.length = (K.map LsV.nds).map notL) := by show _ = _; rw [← hlk, ← List.length_map (f := notL), List.take_length]
  have HAND : Hid (andL (K.map LsV.nds) = notL (orL ((K.map LsV.nds).map notL))) := rfl
  have hkl := h.few
  have HTK : Hid (tot K ≤ 33554432) := by show _ ≤ _; omega
  clear h hg hlk ht htn
  generalize (K.map LsV.nds).map notL = N at *
  generalize andL (K.map LsV.nds) = res at *
  go_enter Try.func17, Try.ntmps17
  go_wp2
  go_loopw [3, 8] (fun s i wr => ∃ (k : Nat) (L : List LsV) (va : Option Addr) (vn vc : Nat), k ≤ K.length ∧ i = .int .i64 k ∧ s = .slice va vn vc ∧ Lists W wr (.slice va vn vc) L ∧ L.map LsV.nds = N.take k) (fun _ i _ => K.length - (intOf i).toNat)
  case atStart => exact ⟨0, [], none, 0, 0, Nat.zero_le _, rfl, rfl, Lists.start W, rfl⟩
  case round =>
    obtain ⟨k, L, va, vn, vc, hk, rfl, rfl, hs, he⟩ := hrel
    have HS : Hid (Lists W wr (.slice va vn vc) L) := hs
    have HE : Hid (L.map LsV.nds = N.take k) := he
    have hll : L.length ≤ k := by have := congrArg List.length he; rw [List.length_map, List.length_take] at this; omega
    have hk2 := HT.out.2
    clear hs he
    by_cases hlt : k < K.length
    · obtain ⟨b, off, rfl, hc⟩ := HK.out.cell k hlt
      have hc := cell_up HS.out.bel hc
      have hy := HK.out.each _ (getD_mem default hlt)
      have hgy := HG.out _ (getD_mem default hlt)
      have HST : Hid (N.take (k + 1) = L.map LsV.nds ++ [notL ((K.getD k default).ys.map (·.x))]) := by show _ = _; rw [HE.out]; exact HSTEP.out k hlt
      have hty : (K.getD k default).ys.length ≤ 274877906944 := by have h2 := tot_take K k hlt; have h3 := tot_le K (k + 1); have h4 := HTK.out; omega
      have hnot := not_any (K.getD k default).a (K.getD k default).cap (K.getD k default).ys wr (hy.below HS.out.bel) hty
      have HGY : Hid (GoodN ((K.getD k default).ys.map (·.x))) := hgy
      clear hy hgy
      generalize K.getD k default = y at *
      obtain ⟨ys, ya, yc⟩ := y
      simp only at hc hty hnot HGY HST
      go_wp2_with fail
      refine Calls.mono hnot ?_
      intro e W2 hm
      obtain ⟨v2, rfl, hm⟩ := hm.ret
      obtain ⟨a2, zs, c2, rfl, _, ho2, hz2, hb2⟩ := hm.at (notL_good HGY.out) (by have := notL_len (ys.map (·.x)); rw [List.length_map] at this; omega)
      obtain ⟨na, nn, nc, Y, hr, hls⟩ := HS.out.push hb2 a2 zs c2 ho2 (by omega)
      have HR : Hid _ := hr
      have HLS : Hid (Lists W Y (.slice na nn nc) (L ++ [⟨zs, a2, c2⟩])) := hls
      have HN : Hid ((L ++ [(⟨zs, a2, c2⟩ : LsV)]).map LsV.nds = N.take (k + 1)) := by
        show _ = _
        rw [HST.out, List.map_append]
        simp [LsV.nds, hz2]
      clear hm ho2 hz2 hb2 hr hls hnot HS HE
      go_wp2_with (at_builtin; refine append_runO (by rfl) _ _ (by rfl) (by rfl) _ _ _ _ (by rfl) (by rfl) HR.out ?_)
      go_roundw
      case rel => exact ⟨k + 1, _, na, nn, nc, by omega, by go_num, rfl, HLS.out, HN.out⟩
      case measure => simp [intOf]; omega
    · have hkk : k = K.length := by omega
      have hN : L.map LsV.nds = N := by rw [HE.out, hkk, HAL.out]
      have hgl : ∀ y ∈ L, GoodN y.nds := fun y hy => HGN.out _ (by rw [← hN]; exact List.mem_map_of_mem hy)
      have htl : tot L ≤ 33554432 := by rw [tot_nds, hN]; exact HT.out.1
      obtain ⟨rfl, hlss⟩ := HS.out.lss hgl (fun y hy => by
        have h1 : y.ys.length ≤ tot L := by
          obtain ⟨A, B, rfl⟩ := List.append_of_mem hy
          rw [tot_append]; unfold tot; simp; omega
        omega) (by omega)
      have hor := or_any va vc L wr hlss hgl (by omega)
      rw [hN] at hor
      have HBW : Hid (Below W.heap.size W wr) := HS.out.bel
      have HOG : Hid (GoodN (orL N) ∧ (orL N).length ≤ 33554433) := ⟨orL_good HGN.out, by have := orL_len N; have := HT.out.1; omega⟩
      clear hkk hN hgl htl hlss HS HE
      go_wp2_with fail
      refine Calls.mono hor ?_
      intro e W3 hm
      obtain ⟨v3, rfl, hm⟩ := hm.ret
      obtain ⟨a3, zs, c3, rfl, hn3, _, hz3, hb3⟩ := hm.at HOG.out.1 (by have := HOG.out.2; omega)
      have hlen : zs.length ≤ 274877906944 := by have := congrArg List.length hz3; rw [List.length_map] at this; have := HOG.out.2; omega
      have hno := not_any a3 c3 zs W3 hn3 hlen
      rw [hz3] at hno
      have HB3 : Hid (Below W.heap.size W W3) := HBW.out.trans (hb3.mono HBW.out.size)
      clear hm hn3 hz3 hb3 hor
      go_wp2_with fail
      refine Calls.mono hno ?_
      rintro e W4 ⟨v4, z4, rfl, q1, q2, q3⟩
      have HMK : Hid (Makes W res (.returned v4) W4) := ⟨v4, z4, rfl, q1.lower HB3.out.size, by rw [q2, HAND.out], HB3.out.trans (q3.mono HB3.out.size)⟩
      clear q1 q2 q3 hno
      go_wp2
      go_ret
      exact HMK.out
end Go.Proofs.Ytpgdkgilmcipkaa
namespace Go.Proofs.Ytpgdkgilmcipkaa
open Go.RowKit Go.Maps Go.ChangeShapes
set_option linter.unusedVariables false
set_option maxRecDepth 100000

def onceL (fr to : Int) (p : List Nd) : List Nd := sinceL fr to [tt] p
/-- The core of a part of which the parts are core formulas. -/
def putL (x : Nd) (l : List (List Nd)) : List Nd :=
  if x.op = 3 then notL (l.getD 0 []) else if x.op = 4 then andL l else if x.op = 5 then orL l else if x.op = 6 then orL [notL (l.getD 0 []), l.getD 1 []] else if x.op = 7 then prevL (l.getD 0 []) else if x.op = 8 then onceL x.fr x.to (l.getD 0 []) else if x.op = 9 then notL (onceL x.fr x.to (notL (l.getD 0 []))) else if x.op = 10 then sinceL x.fr x.to (l.getD 0 []) (l.getD 1 []) else [{ x with n := 0 }]
theorem Makes.up {W W1 W' : World} {l : List Nd} {e : Ending} (h : Makes W1 l e W') (hb : Below W.heap.size W W1) : Makes W l e W' := by
  obtain ⟨v, zs, rfl, q1, q2, q3⟩ := h
  exact ⟨v, zs, rfl, q1.lower hb.size, q2, hb.trans (q3.mono hb.size)⟩
set_option maxHeartbeats 400000 in
theorem once_any (fr to : Int) (a : Option Addr) (cap : Nat) (ys : List NdV) (W : World) (h : NdsAt W a cap ys) (hl : ys.length ≤ 137438953472) :
    Calls Try.prog 78 #[.int .i64 fr, .int .i64 to, .slice a ys.length cap] W (Makes W (onceL fr to (ys.map (·.x)))) := by
  have HY : Hid (NdsAt W a cap ys) := h
  have hy := yes_any W
  rw [show onceL fr to (ys.map (·.x)) = sinceL fr to [tt] (ys.map (·.x)) from rfl]
  clear h
  go_enter Try.func78, Try.ntmps78
  go_wp2_with fail
  refine Calls.mono hy ?_
  intro e W1 hm
  obtain ⟨v, rfl, hm⟩ := hm.ret
  obtain ⟨a1, zs, c1, rfl, hn1, _, hz1, hb1⟩ := hm.at good_one (by simp)
  have hlen : zs.length ≤ 1 := by have := congrArg List.length hz1; simp at this; omega
  have hs := since_any fr to a1 a c1 cap zs ys W1 hn1 (HY.out.below hb1) (by omega) hl
  rw [hz1] at hs
  have HB1 : Hid (Below W.heap.size W W1) := hb1
  clear hm hn1 hz1 hb1 hy
  go_wp2_with fail
  refine Calls.mono hs ?_
  intro e W2 hm
  obtain ⟨v, rfl, hm2⟩ := (hm.up HB1.out).ret
  have HM : Hid (Makes W _ (.returned v) W2) := hm2
  clear hm hm2 hs
  go_wp2
  go_ret
  exact HM.out
end Go.Proofs.Ytpgdkgilmcipkaa
namespace Go.Proofs.Ytpgdkgilmcipkaa
open Go.RowKit Go.Maps Go.ChangeShapes
set_option linter.unusedVariables false
set_option maxRecDepth 100000

set_option maxHeartbeats 16000000 in
theorem put_any (y : NdV) (a : Option Addr) (cap : Nat) (K : List LsV) (W : World) (hy : TmsAt W y) (h : LssAt W a cap K) (hgy : GoodN [y.x]) (hg : ∀ z ∈ K, GoodN z.nds) (ht : tot K + K.length ≤ 1048576) (hn : fitsNB y.x.op y.x.n = true) (hk : K.length = y.x.n.toNat) :
    Calls Try.prog 65 #[.agg #[.int .i64 y.x.op, .int .i64 y.x.n, .int .i64 y.x.fr, .int .i64 y.x.to, .slice y.ta y.x.terms.length y.tc, .int .i64 y.x.num], .slice a K.length cap] W (Makes W (putL y.x (K.map LsV.nds))) := by
  obtain ⟨⟨op, n, fr, to, ts, num⟩, ta, tc⟩ := y
  simp only at hn hk hgy
  have HKN : Hid (K.length = n.toNat) := hk
  clear hk
  have hB : Below W.heap.size W (W.alloc (.cells #[.int .i64 op, .int .i64 n, .int .i64 fr, .int .i64 to, .slice ta ts.length tc, .int .i64 num] 37)) := (Below.refl _ _).alloc (Nat.le_refl _) _
  have HB : Hid (Below W.heap.size W (W.alloc (.cells #[.int .i64 op, .int .i64 n, .int .i64 fr, .int .i64 to, .slice ta ts.length tc, .int .i64 num] 37))) := hB
  have HCELL : Hid (∀ X, Below (W.alloc (.cells #[.int .i64 op, .int .i64 n, .int .i64 fr, .int .i64 to, .slice ta ts.length tc, .int .i64 num] 37)).heap.size (W.alloc (.cells #[.int .i64 op, .int .i64 n, .int .i64 fr, .int .i64 to, .slice ta ts.length tc, .int .i64 num] 37)) X → X.cell? ⟨W.heap.size, 2, none⟩ = some (.int .i64 fr) ∧ X.cell? ⟨W.heap.size, 3, none⟩ = some (.int .i64 to)) := fun X hX => ⟨cell_up hX (by simp [go_sem]), cell_up hX (by simp [go_sem])⟩
  have HK : Hid (LssAt W a cap K) := h
  have HG : Hid (∀ z ∈ K, GoodN z.nds) := hg
  have HTT : Hid (TmsAt W ⟨⟨op, n, fr, to, ts, num⟩, ta, tc⟩) := hy
  have HTOT : Hid (tot K + K.length ≤ 1048576) := ht
  -- an element of the lists
  have HEL : Hid (∀ i, i < K.length → ∃ b off ys ya yc, a = some ⟨b, off, none⟩ ∧ (∀ X, Below W.heap.size W X → X.cell? ⟨b, off + i, none⟩ = some (.slice ya ys.length yc)) ∧ NdsAt W ya yc ys ∧ (K.map LsV.nds).getD i [] = ys.map (·.x) ∧ GoodN (ys.map (·.x)) ∧ ys.length ≤ 1048576) := fun i hi => by
    obtain ⟨b, off, e, hc⟩ := h.cell i hi
    have hm := getD_mem default hi
    refine ⟨b, off, (K.getD i default).ys, (K.getD i default).a, (K.getD i default).cap, e, fun X hX => cell_up hX hc, h.each _ hm, map_getD LsV.nds default [] hi, hg _ hm, ?_⟩
    have h2 := tot_take K i hi
    have h3 := tot_le K (i + 1)
    omega
  clear hy h hg ht
  have hops : op = 0 ∨ op = 1 ∨ op = 2 ∨ op = 3 ∨ op = 4 ∨ op = 5 ∨ op = 6 ∨ op = 7 ∨ op = 8 ∨ op = 9 ∨ op = 10 := by
    unfold fitsNB at hn
    split at hn
    · omega
    · split at hn
      · omega
      · split at hn
        · omega
        · split at hn
          · omega
          · cases hn
  rcases hops with rfl | rfl | rfl | rfl | rfl | rfl | rfl | rfl | rfl | rfl | rfl
  · have HE : Hid (putL ⟨0, n, fr, to, ts, num⟩ (K.map LsV.nds) = [⟨0, 0, fr, to, ts, num⟩]) := by simp [Hid, putL]
    have hmk := make_any ⟨⟨0, n, fr, to, ts, num⟩, ta, tc⟩ none 0 [] _ (HTT.out.below hB) (nil_lss _) (by simp [tot]) (by simp)
    have HMK : Hid (Calls Try.prog 41 #[.agg #[.int .i64 0, .int .i64 n, .int .i64 fr, .int .i64 to, .slice ta ts.length tc, .int .i64 num], .slice none 0 0] (W.alloc (.cells #[.int .i64 0, .int .i64 n, .int .i64 fr, .int .i64 to, .slice ta ts.length tc, .int .i64 num] 37)) (Makes (W.alloc (.cells #[.int .i64 0, .int .i64 n, .int .i64 fr, .int .i64 to, .slice ta ts.length tc, .int .i64 num] 37)) [⟨0, 0, fr, to, ts, num⟩])) := hmk.mono fun e W' ⟨v, zs, q0, q1, q2, q3⟩ => ⟨v, zs, q0, q1, by rw [q2]; rfl, q3⟩
    clear hmk hn hgy HEL hB
    go_enter Try.func65, Try.ntmps65
    go_wp2_with fail
    refine Calls.mono (HMK.out) ?_
    intro e W9 hm
    obtain ⟨v, rfl, hm2⟩ := (hm.up HB.out).ret
    have HM : Hid (Makes W _ (.returned v) W9) := hm2
    clear hm hm2
    go_wp2
    go_ret
    rw [HE.out]
    exact HM.out
  · have HE : Hid (putL ⟨1, n, fr, to, ts, num⟩ (K.map LsV.nds) = [⟨1, 0, fr, to, ts, num⟩]) := by simp [Hid, putL]
    have hmk := make_any ⟨⟨1, n, fr, to, ts, num⟩, ta, tc⟩ none 0 [] _ (HTT.out.below hB) (nil_lss _) (by simp [tot]) (by simp)
    have HMK : Hid (Calls Try.prog 41 #[.agg #[.int .i64 1, .int .i64 n, .int .i64 fr, .int .i64 to, .slice ta ts.length tc, .int .i64 num], .slice none 0 0] (W.alloc (.cells #[.int .i64 1, .int .i64 n, .int .i64 fr, .int .i64 to, .slice ta ts.length tc, .int .i64 num] 37)) (Makes (W.alloc (.cells #[.int .i64 1, .int .i64 n, .int .i64 fr, .int .i64 to, .slice ta ts.length tc, .int .i64 num] 37)) [⟨1, 0, fr, to, ts, num⟩])) := hmk.mono fun e W' ⟨v, zs, q0, q1, q2, q3⟩ => ⟨v, zs, q0, q1, by rw [q2]; rfl, q3⟩
    clear hmk hn hgy HEL hB
    go_enter Try.func65, Try.ntmps65
    go_wp2_with fail
    refine Calls.mono (HMK.out) ?_
    intro e W9 hm
    obtain ⟨v, rfl, hm2⟩ := (hm.up HB.out).ret
    have HM : Hid (Makes W _ (.returned v) W9) := hm2
    clear hm hm2
    go_wp2
    go_ret
    rw [HE.out]
    exact HM.out
  · have HE : Hid (putL ⟨2, n, fr, to, ts, num⟩ (K.map LsV.nds) = [⟨2, 0, fr, to, ts, num⟩]) := by simp [Hid, putL]
    have hmk := make_any ⟨⟨2, n, fr, to, ts, num⟩, ta, tc⟩ none 0 [] _ (HTT.out.below hB) (nil_lss _) (by simp [tot]) (by simp)
    have HMK : Hid (Calls Try.prog 41 #[.agg #[.int .i64 2, .int .i64 n, .int .i64 fr, .int .i64 to, .slice ta ts.length tc, .int .i64 num], .slice none 0 0] (W.alloc (.cells #[.int .i64 2, .int .i64 n, .int .i64 fr, .int .i64 to, .slice ta ts.length tc, .int .i64 num] 37)) (Makes (W.alloc (.cells #[.int .i64 2, .int .i64 n, .int .i64 fr, .int .i64 to, .slice ta ts.length tc, .int .i64 num] 37)) [⟨2, 0, fr, to, ts, num⟩])) := hmk.mono fun e W' ⟨v, zs, q0, q1, q2, q3⟩ => ⟨v, zs, q0, q1, by rw [q2]; rfl, q3⟩
    clear hmk hn hgy HEL hB
    go_enter Try.func65, Try.ntmps65
    go_wp2_with fail
    refine Calls.mono (HMK.out) ?_
    intro e W9 hm
    obtain ⟨v, rfl, hm2⟩ := (hm.up HB.out).ret
    have HM : Hid (Makes W _ (.returned v) W9) := hm2
    clear hm hm2
    go_wp2
    go_ret
    rw [HE.out]
    exact HM.out
  · have hk1 : 0 < K.length := by have : n = 1 := by simpa [fitsNB] using hn
                                  have := HKN.out; omega
    obtain ⟨b, off, y0, a0, c0, rfl, hc0, hn0, hm0, hg0, hl0⟩ := HEL.out 0 (by omega)
    have HE : Hid (putL ⟨3, n, fr, to, ts, num⟩ (K.map LsV.nds) = notL (y0.map (·.x))) := by simp only [Hid, putL]; rw [hm0]; rfl
    have hca := not_any a0 c0 y0 _ (hn0.below hB) (by omega)
    have hcell := hc0 _ hB
    simp only [Nat.add_zero] at hcell
    clear hc0 hn0 hm0 hg0 hn hgy HEL hB
    go_enter Try.func65, Try.ntmps65
    go_wp2_with fail
    refine Calls.mono (hca) ?_
    intro e W9 hm
    obtain ⟨v, rfl, hm2⟩ := (hm.up HB.out).ret
    have HM : Hid (Makes W _ (.returned v) W9) := hm2
    clear hm hm2
    go_wp2
    go_ret
    rw [HE.out]
    exact HM.out
  · have HE : Hid (putL ⟨4, n, fr, to, ts, num⟩ (K.map LsV.nds) = andL (K.map LsV.nds)) := by simp [Hid, putL]
    have hca := and_any a cap K _ (HK.out.below hB) HG.out (by have := HTOT.out; omega)
    clear hn hgy HEL hB
    go_enter Try.func65, Try.ntmps65
    go_wp2_with fail
    refine Calls.mono (hca) ?_
    intro e W9 hm
    obtain ⟨v, rfl, hm2⟩ := (hm.up HB.out).ret
    have HM : Hid (Makes W _ (.returned v) W9) := hm2
    clear hm hm2
    go_wp2
    go_ret
    rw [HE.out]
    exact HM.out
  · have HE : Hid (putL ⟨5, n, fr, to, ts, num⟩ (K.map LsV.nds) = orL (K.map LsV.nds)) := by simp [Hid, putL]
    have hca := or_any a cap K _ (HK.out.below hB) HG.out (by have := HTOT.out; omega)
    clear hn hgy HEL hB
    go_enter Try.func65, Try.ntmps65
    go_wp2_with fail
    refine Calls.mono (hca) ?_
    intro e W9 hm
    obtain ⟨v, rfl, hm2⟩ := (hm.up HB.out).ret
    have HM : Hid (Makes W _ (.returned v) W9) := hm2
    clear hm hm2
    go_wp2
    go_ret
    rw [HE.out]
    exact HM.out
  · have hk0 : 0 < K.length := by have : n = 2 := by simpa [fitsNB] using hn
                                  have := HKN.out; omega
    have hk1 : 1 < K.length := by have : n = 2 := by simpa [fitsNB] using hn
                                  have := HKN.out; omega
    obtain ⟨b, off, y0, a0, c0, rfl, hc0, hn0, hm0, hg0, hl0⟩ := HEL.out 0 (by omega)
    obtain ⟨b1, off1, y1, a1, c1, e1, hc1, hn1, hm1, hg1, hl1⟩ := HEL.out 1 (by omega)
    simp only [Option.some.injEq, Addr.mk.injEq, and_true] at e1
    obtain ⟨rfl, rfl⟩ := e1
    have hcell0 := hc0 _ hB
    have hcell1 := hc1 _ hB
    simp only [Nat.add_zero] at hcell0 hc0
    have hk2 : (1 : Int) < K.length := by omega
    have HE : Hid (putL ⟨6, n, fr, to, ts, num⟩ (K.map LsV.nds) = orL [notL (y0.map (·.x)), y1.map (·.x)]) := by simp only [Hid, putL]; rw [hm0, hm1]; rfl
    have HCE : Hid (∀ X, Below W.heap.size W X → X.cell? ⟨b, off, none⟩ = some (.slice a0 y0.length c0) ∧ X.cell? ⟨b, off + 1, none⟩ = some (.slice a1 y1.length c1)) := fun X hX => ⟨hc0 X hX, hc1 X hX⟩
    have HN0 : Hid (∀ X, Below W.heap.size W X → Calls Try.prog 19 #[.slice a0 y0.length c0] X (Makes X (notL (y0.map (·.x))))) := fun X hX => not_any a0 c0 y0 X (hn0.below hX) (by omega)
    have HOR : Hid (∀ X zs za zc, Below W.heap.size W X → NdsAt X za zc zs → zs.map (·.x) = notL (y0.map (·.x)) → Calls Try.prog 20 #[.slice (some ⟨X.heap.size, 0, none⟩) 2 2] (X.alloc (.cells #[.slice za zs.length zc, .slice a1 y1.length c1] 28)) (Makes W (orL [notL (y0.map (·.x)), y1.map (·.x)]))) := fun X zs za zc hX hz he => by
      have hzl : zs.length ≤ 1048577 := by have h1 := congrArg List.length he; have h2 := notL_len (y0.map (·.x)); rw [List.length_map] at h1 h2; omega
      have := or_any (some ⟨X.heap.size, 0, none⟩) 2 [⟨zs, za, zc⟩, ⟨y1, a1, c1⟩] _ (lss_two hz (hn1.below hX)) (fun z hzz => by
        simp only [List.mem_cons, List.not_mem_nil, or_false] at hzz
        rcases hzz with rfl | rfl
        · show GoodN (zs.map (·.x)); rw [he]; exact notL_good hg0
        · exact hg1) (by simp [tot]; omega)
      have e2 : [(⟨zs, za, zc⟩ : LsV), ⟨y1, a1, c1⟩].map LsV.nds = [notL (y0.map (·.x)), y1.map (·.x)] := by simp [LsV.nds, he]
      rw [e2] at this
      exact this.mono fun e W' hm => hm.up (hX.alloc hX.size _)
    have HG0 : Hid (GoodN (notL (y0.map (·.x))) ∧ (notL (y0.map (·.x))).length ≤ 1099511627776) := ⟨notL_good hg0, by have := notL_len (y0.map (·.x)); rw [List.length_map] at this; omega⟩
    clear hc0 hc1 hn0 hn1 hm0 hm1 hg0 hg1 hn hgy HEL
    go_enter Try.func65, Try.ntmps65
    go_wp2_with fail
    have HBB : Hid (Below W.heap.size W (W.alloc (.cells #[.int .i64 6, .int .i64 n, .int .i64 fr, .int .i64 to, .slice ta ts.length tc, .int .i64 num] 37)).drew) := hB.drew
    refine wp_region_held_drew (S := fun W' => W'.cell? ⟨b, off, none⟩ = some (.slice a0 y0.length c0) ∧ W'.cell? ⟨b, off + 1, none⟩ = some (.slice a1 y1.length c1)) (by kernel_rfl) (HCE.out _ HBB.out) (fun hHeld => ?_)
    refine wpAnyH_take (i := 0) (oi := { dst := some 23, op := Op.move (Operand.tmp 1), type := 39, pos := "core.go:68", after := #[], guard := none }) (v := ?_) rfl (by kernel_rfl) (by kernel_rfl) (by kernel_rfl) (fun _ _ _ h => h) (Or.inl ⟨by rfl, ?_⟩) hHeld ?_
    rotate_left
    · (intro w hSw; (try dsimp only at hSw); go_simp; all_goals (try with_reducible rfl))
    try simp only [Act.put, List.setIfInBounds_toArray, List.set_cons_zero, List.set_cons_succ]
    refine wpAnyH_take (i := 1) (oi := { dst := some 24, op := Op.indexAddr 39 (Operand.tmp 23) (Operand.const (Value.int IntKind.i64 0)), type := 0, pos := "core.go:68", after := #[{ on := 0, ground := Ground.data }], guard := none }) (v := ?_) rfl (by kernel_rfl) (by kernel_rfl) (by kernel_rfl) (fun _ _ _ h => h) (Or.inl ⟨by rfl, ?_⟩) hHeld ?_
    rotate_left
    · (intro w hSw; (try dsimp only at hSw); go_simp; all_goals (try with_reducible rfl))
    try simp only [Act.put, List.setIfInBounds_toArray, List.set_cons_zero, List.set_cons_succ]
    refine wpAnyH_take (i := 2) (oi := { dst := some 25, op := Op.load 28 (Operand.tmp 24), type := 28, pos := "core.go:68", after := #[{ on := 1, ground := Ground.data }], guard := none }) (v := ?_) rfl (by kernel_rfl) (by kernel_rfl) (by kernel_rfl) (fun _ _ _ h => h) (Or.inl ⟨by rfl, ?_⟩) hHeld ?_
    rotate_left
    · (intro w hSw; (try dsimp only at hSw); go_simp; all_goals (try with_reducible rfl))
    try simp only [Act.put, List.setIfInBounds_toArray, List.set_cons_zero, List.set_cons_succ]
    refine wpAnyH_take (i := 4) (oi := { dst := some 27, op := Op.move (Operand.tmp 1), type := 39, pos := "core.go:68", after := #[], guard := none }) (v := ?_) rfl (by kernel_rfl) (by kernel_rfl) (by kernel_rfl) (fun _ _ _ h => h) (Or.inl ⟨by rfl, ?_⟩) hHeld ?_
    rotate_left
    · (intro w hSw; (try dsimp only at hSw); go_simp; all_goals (try with_reducible rfl))
    try simp only [Act.put, List.setIfInBounds_toArray, List.set_cons_zero, List.set_cons_succ]
    refine wpAnyH_take (i := 5) (oi := { dst := some 28, op := Op.indexAddr 39 (Operand.tmp 27) (Operand.const (Value.int IntKind.i64 1)), type := 0, pos := "core.go:68", after := #[{ on := 4, ground := Ground.data }], guard := none }) (v := ?_) rfl (by kernel_rfl) (by kernel_rfl) (by kernel_rfl) (fun _ _ _ h => h) (Or.inl ⟨by rfl, ?_⟩) hHeld ?_
    rotate_left
    · (intro w hSw; (try dsimp only at hSw); go_simp; all_goals (try with_reducible rfl))
    try simp only [Act.put, List.setIfInBounds_toArray, List.set_cons_zero, List.set_cons_succ]
    refine wpAnyH_take (i := 6) (oi := { dst := some 29, op := Op.load 28 (Operand.tmp 28), type := 28, pos := "core.go:68", after := #[{ on := 5, ground := Ground.data }], guard := none }) (v := ?_) rfl (by kernel_rfl) (by kernel_rfl) (by kernel_rfl) (fun _ _ _ h => h) (Or.inl ⟨by rfl, ?_⟩) hHeld ?_
    rotate_left
    · (intro w hSw; (try dsimp only at hSw); go_simp; all_goals (try with_reducible rfl))
    try simp only [Act.put, List.setIfInBounds_toArray, List.set_cons_zero, List.set_cons_succ]
    refine wpAnyH_ready (rs := [3]) (by kernel_rfl) (by simp) ?_
    refine AllReadyH.cons (o := { dst := some 26, op := Op.call { callee := Callee.value (Operand.func 19), args := #[Operand.tmp 25], argTypes := #[28] }, type := 28, pos := "core.go:68", after := #[{ on := 2, ground := Ground.data }], guard := none }) rfl (fun K hK => ?_) AllReadyH.nil
    go_simp
    refine Calls.mono (HN0.out _ HBB.out) ?_
    intro e W2 hm
    obtain ⟨v2, rfl, hm⟩ := hm.ret
    obtain ⟨za, zs, zc, rfl, hzn, _, hze, hzb⟩ := hm.at HG0.out.1 HG0.out.2
    have HBB : Hid (Below W.heap.size W W2) := HBB.out.trans (hzb.mono HBB.out.size)
    have HZ : Hid (NdsAt W2 za zc zs ∧ zs.map (·.x) = notL (y0.map (·.x))) := ⟨hzn, hze⟩
    clear hm hzn hze hzb
    go_wp2_with fail
    refine hK.out _ _ (HCE.out _ HBB.out) (fun hHeld => ?_)
    clear hK K
    try simp only [Act.put, List.setIfInBounds_toArray, List.set_cons_zero, List.set_cons_succ]
    refine wpAnyH_ready (rs := [7]) (by kernel_rfl) (by simp) ?_
    refine AllReadyH.cons (o := { dst := some 30, op := Op.buildSlice 39 2 #[(0, Operand.tmp 26), (1, Operand.tmp 29)], type := 39, pos := "core.go:68", after := #[{ on := 3, ground := Ground.data }, { on := 6, ground := Ground.data }], guard := none }) rfl (fun K hK => ?_) AllReadyH.nil
    go_simp
    skip
    have HBC : Hid (Below W.heap.size W W2) := HBB.out
    have HBB : Hid (Below W.heap.size W (W2.alloc (.cells #[.slice za zs.length zc, .slice a1 y1.length c1] 28))) := HBB.out.alloc HBB.out.size _
    refine hK.out _ _ (HCE.out _ HBB.out) (fun hHeld => ?_)
    clear hK K
    try simp only [Act.put, List.setIfInBounds_toArray, List.set_cons_zero, List.set_cons_succ]
    refine wpAnyH_ready (rs := [8]) (by kernel_rfl) (by simp) ?_
    refine AllReadyH.cons (o := { dst := some 31, op := Op.call { callee := Callee.value (Operand.func 20), args := #[Operand.tmp 30], argTypes := #[39] }, type := 28, pos := "core.go:68", after := #[{ on := 7, ground := Ground.data }, { on := 3, ground := Ground.chain }], guard := none }) rfl (fun K hK => ?_) AllReadyH.nil
    go_simp
    refine Calls.mono (HOR.out W2 zs za zc HBC.out HZ.out.1 HZ.out.2) ?_
    intro e W9 hm
    obtain ⟨v, rfl, hm⟩ := hm.ret
    have HM : Hid (Makes W _ (.returned v) W9) := hm
    have HBB : Hid (Below W.heap.size W W9) := by obtain ⟨_, _, _, _, _, q⟩ := hm; exact q
    clear hm
    go_wp2_with fail
    refine hK.out _ _ (HCE.out _ HBB.out) (fun hHeld => ?_)
    clear hK K
    try simp only [Act.put, List.setIfInBounds_toArray, List.set_cons_zero, List.set_cons_succ]
    refine wpAnyH_take (i := 9) (oi := { dst := some 4, op := Op.assign (Operand.tmp 31), type := 28, pos := "core.go:68", after := #[{ on := 8, ground := Ground.data }, { on := 8, ground := Ground.chain }, { on := 0, ground := Ground.phase }, { on := 1, ground := Ground.phase }, { on := 2, ground := Ground.phase }, { on := 3, ground := Ground.phase }, { on := 4, ground := Ground.phase }, { on := 5, ground := Ground.phase }, { on := 6, ground := Ground.phase }, { on := 7, ground := Ground.phase }, { on := 8, ground := Ground.phase }], guard := none }) (v := ?_) rfl (by kernel_rfl) (by kernel_rfl) (by kernel_rfl) (fun _ _ _ h => h) (Or.inl ⟨by rfl, ?_⟩) hHeld ?_
    rotate_left
    · (intro w hSw; (try dsimp only at hSw); go_simp; all_goals (try with_reducible rfl))
    try simp only [Act.put, List.setIfInBounds_toArray, List.set_cons_zero, List.set_cons_succ]
    refine wpAnyH_done (by kernel_rfl) ?_ _
    go_wp2
    go_ret
    rw [HE.out]
    exact HM.out
  · have hk1 : 0 < K.length := by have : n = 1 := by simpa [fitsNB] using hn
                                  have := HKN.out; omega
    obtain ⟨b, off, y0, a0, c0, rfl, hc0, hn0, hm0, hg0, hl0⟩ := HEL.out 0 (by omega)
    have HE : Hid (putL ⟨7, n, fr, to, ts, num⟩ (K.map LsV.nds) = prevL (y0.map (·.x))) := by simp only [Hid, putL]; rw [hm0]; rfl
    have hca := prev_any a0 c0 y0 _ (hn0.below hB) (by omega)
    have hcell := hc0 _ hB
    simp only [Nat.add_zero] at hcell
    clear hc0 hn0 hm0 hg0 hn hgy HEL hB
    go_enter Try.func65, Try.ntmps65
    go_wp2_with fail
    refine Calls.mono (hca) ?_
    intro e W9 hm
    obtain ⟨v, rfl, hm2⟩ := (hm.up HB.out).ret
    have HM : Hid (Makes W _ (.returned v) W9) := hm2
    clear hm hm2
    go_wp2
    go_ret
    rw [HE.out]
    exact HM.out
  · have hk1 : 0 < K.length := by have : n = 1 := by simpa [fitsNB] using hn
                                  have := HKN.out; omega
    obtain ⟨b, off, y0, a0, c0, rfl, hc0, hn0, hm0, hg0, hl0⟩ := HEL.out 0 (by omega)
    have hcell0 := hc0 _ hB
    simp only [Nat.add_zero] at hcell0 hc0
    have HE : Hid (putL ⟨8, n, fr, to, ts, num⟩ (K.map LsV.nds) = onceL fr to (y0.map (·.x))) := by simp only [Hid, putL]; rw [hm0]; rfl
    have HCE : Hid (∀ X, Below (W.alloc (.cells #[.int .i64 8, .int .i64 n, .int .i64 fr, .int .i64 to, .slice ta ts.length tc, .int .i64 num] 37)).heap.size (W.alloc (.cells #[.int .i64 8, .int .i64 n, .int .i64 fr, .int .i64 to, .slice ta ts.length tc, .int .i64 num] 37)) X → X.cell? ⟨W.heap.size, 2, none⟩ = some (.int .i64 fr) ∧ X.cell? ⟨W.heap.size, 3, none⟩ = some (.int .i64 to) ∧ X.cell? ⟨b, off, none⟩ = some (.slice a0 y0.length c0)) := fun X hX => ⟨(HCELL.out X hX).1, (HCELL.out X hX).2, hc0 X (hB.trans (hX.mono hB.size))⟩
    have HBW : Hid (∀ X, Below (W.alloc (.cells #[.int .i64 8, .int .i64 n, .int .i64 fr, .int .i64 to, .slice ta ts.length tc, .int .i64 num] 37)).heap.size (W.alloc (.cells #[.int .i64 8, .int .i64 n, .int .i64 fr, .int .i64 to, .slice ta ts.length tc, .int .i64 num] 37)) X → Below W.heap.size W X) := fun X hX => hB.trans (hX.mono hB.size)
    have HON : Hid (∀ X, Below W.heap.size W X → Calls Try.prog 78 #[.int .i64 fr, .int .i64 to, .slice a0 y0.length c0] X (Makes X (onceL fr to (y0.map (·.x))))) := fun X hX => once_any fr to a0 c0 y0 X (hn0.below hX) (by omega)
    clear hc0 hn0 hm0 hg0 hn hgy HEL
    go_enter Try.func65, Try.ntmps65
    go_wp2_with fail
    have HBB : Hid (Below (W.alloc (.cells #[.int .i64 8, .int .i64 n, .int .i64 fr, .int .i64 to, .slice ta ts.length tc, .int .i64 num] 37)).heap.size (W.alloc (.cells #[.int .i64 8, .int .i64 n, .int .i64 fr, .int .i64 to, .slice ta ts.length tc, .int .i64 num] 37)) (W.alloc (.cells #[.int .i64 8, .int .i64 n, .int .i64 fr, .int .i64 to, .slice ta ts.length tc, .int .i64 num] 37)).drew) := (Below.refl _ _).drew
    refine wp_region_held_drew (S := fun W' => W'.cell? ⟨W.heap.size, 2, none⟩ = some (.int .i64 fr) ∧ W'.cell? ⟨W.heap.size, 3, none⟩ = some (.int .i64 to) ∧ W'.cell? ⟨b, off, none⟩ = some (.slice a0 y0.length c0)) (by kernel_rfl) (HCE.out _ HBB.out) (fun hHeld => ?_)
    refine wpAnyH_take (i := 0) (oi := { dst := some 40, op := Op.fieldAddr 37 (Operand.tmp 2) 2, type := 0, pos := "core.go:72", after := #[], guard := none }) (v := ?_) rfl (by kernel_rfl) (by kernel_rfl) (by kernel_rfl) (fun _ _ _ h => h) (Or.inl ⟨by rfl, ?_⟩) hHeld ?_
    rotate_left
    · (intro w hSw; (try dsimp only at hSw); go_simp; all_goals (try with_reducible rfl))
    try simp only [Act.put, List.setIfInBounds_toArray, List.set_cons_zero, List.set_cons_succ]
    refine wpAnyH_take (i := 1) (oi := { dst := some 41, op := Op.load 3 (Operand.tmp 40), type := 3, pos := "core.go:72", after := #[{ on := 0, ground := Ground.data }], guard := none }) (v := ?_) rfl (by kernel_rfl) (by kernel_rfl) (by kernel_rfl) (fun _ _ _ h => h) (Or.inl ⟨by rfl, ?_⟩) hHeld ?_
    rotate_left
    · (intro w hSw; (try dsimp only at hSw); go_simp; all_goals (try with_reducible rfl))
    try simp only [Act.put, List.setIfInBounds_toArray, List.set_cons_zero, List.set_cons_succ]
    refine wpAnyH_take (i := 2) (oi := { dst := some 42, op := Op.fieldAddr 37 (Operand.tmp 2) 3, type := 0, pos := "core.go:72", after := #[], guard := none }) (v := ?_) rfl (by kernel_rfl) (by kernel_rfl) (by kernel_rfl) (fun _ _ _ h => h) (Or.inl ⟨by rfl, ?_⟩) hHeld ?_
    rotate_left
    · (intro w hSw; (try dsimp only at hSw); go_simp; all_goals (try with_reducible rfl))
    try simp only [Act.put, List.setIfInBounds_toArray, List.set_cons_zero, List.set_cons_succ]
    refine wpAnyH_take (i := 3) (oi := { dst := some 43, op := Op.load 3 (Operand.tmp 42), type := 3, pos := "core.go:72", after := #[{ on := 2, ground := Ground.data }], guard := none }) (v := ?_) rfl (by kernel_rfl) (by kernel_rfl) (by kernel_rfl) (fun _ _ _ h => h) (Or.inl ⟨by rfl, ?_⟩) hHeld ?_
    rotate_left
    · (intro w hSw; (try dsimp only at hSw); go_simp; all_goals (try with_reducible rfl))
    try simp only [Act.put, List.setIfInBounds_toArray, List.set_cons_zero, List.set_cons_succ]
    refine wpAnyH_take (i := 4) (oi := { dst := some 44, op := Op.move (Operand.tmp 1), type := 39, pos := "core.go:72", after := #[], guard := none }) (v := ?_) rfl (by kernel_rfl) (by kernel_rfl) (by kernel_rfl) (fun _ _ _ h => h) (Or.inl ⟨by rfl, ?_⟩) hHeld ?_
    rotate_left
    · (intro w hSw; (try dsimp only at hSw); go_simp; all_goals (try with_reducible rfl))
    try simp only [Act.put, List.setIfInBounds_toArray, List.set_cons_zero, List.set_cons_succ]
    refine wpAnyH_take (i := 5) (oi := { dst := some 45, op := Op.indexAddr 39 (Operand.tmp 44) (Operand.const (Value.int IntKind.i64 0)), type := 0, pos := "core.go:72", after := #[{ on := 4, ground := Ground.data }], guard := none }) (v := ?_) rfl (by kernel_rfl) (by kernel_rfl) (by kernel_rfl) (fun _ _ _ h => h) (Or.inl ⟨by rfl, ?_⟩) hHeld ?_
    rotate_left
    · (intro w hSw; (try dsimp only at hSw); go_simp; all_goals (try with_reducible rfl))
    try simp only [Act.put, List.setIfInBounds_toArray, List.set_cons_zero, List.set_cons_succ]
    refine wpAnyH_take (i := 6) (oi := { dst := some 46, op := Op.load 28 (Operand.tmp 45), type := 28, pos := "core.go:72", after := #[{ on := 5, ground := Ground.data }], guard := none }) (v := ?_) rfl (by kernel_rfl) (by kernel_rfl) (by kernel_rfl) (fun _ _ _ h => h) (Or.inl ⟨by rfl, ?_⟩) hHeld ?_
    rotate_left
    · (intro w hSw; (try dsimp only at hSw); go_simp; all_goals (try with_reducible rfl))
    try simp only [Act.put, List.setIfInBounds_toArray, List.set_cons_zero, List.set_cons_succ]
    refine wpAnyH_ready (rs := [7]) (by kernel_rfl) (by simp) ?_
    refine AllReadyH.cons (o := { dst := some 47, op := Op.call { callee := Callee.value (Operand.func 78), args := #[Operand.tmp 41, Operand.tmp 43, Operand.tmp 46], argTypes := #[3, 3, 28] }, type := 28, pos := "core.go:72", after := #[{ on := 1, ground := Ground.data }, { on := 3, ground := Ground.data }, { on := 6, ground := Ground.data }], guard := none }) rfl (fun K hK => ?_) AllReadyH.nil
    go_simp
    refine Calls.mono (HON.out _ (HBW.out _ HBB.out)) ?_
    intro e W9 hm
    obtain ⟨v, rfl, hm⟩ := hm.ret
    have HM : Hid (Makes W _ (.returned v) W9) := hm.up (HBW.out _ HBB.out)
    have HBB : Hid (Below (W.alloc (.cells #[.int .i64 8, .int .i64 n, .int .i64 fr, .int .i64 to, .slice ta ts.length tc, .int .i64 num] 37)).heap.size (W.alloc (.cells #[.int .i64 8, .int .i64 n, .int .i64 fr, .int .i64 to, .slice ta ts.length tc, .int .i64 num] 37)) W9) := by obtain ⟨_, _, _, _, _, q⟩ := hm; exact HBB.out.trans (q.mono HBB.out.size)
    clear hm
    go_wp2_with fail
    refine hK.out _ _ (HCE.out _ HBB.out) (fun hHeld => ?_)
    clear hK K
    try simp only [Act.put, List.setIfInBounds_toArray, List.set_cons_zero, List.set_cons_succ]
    refine wpAnyH_take (i := 8) (oi := { dst := some 4, op := Op.assign (Operand.tmp 47), type := 28, pos := "core.go:72", after := #[{ on := 7, ground := Ground.data }, { on := 7, ground := Ground.chain }, { on := 0, ground := Ground.phase }, { on := 1, ground := Ground.phase }, { on := 2, ground := Ground.phase }, { on := 3, ground := Ground.phase }, { on := 4, ground := Ground.phase }, { on := 5, ground := Ground.phase }, { on := 6, ground := Ground.phase }, { on := 7, ground := Ground.phase }], guard := none }) (v := ?_) rfl (by kernel_rfl) (by kernel_rfl) (by kernel_rfl) (fun _ _ _ h => h) (Or.inl ⟨by rfl, ?_⟩) hHeld ?_
    rotate_left
    · (intro w hSw; (try dsimp only at hSw); go_simp; all_goals (try with_reducible rfl))
    try simp only [Act.put, List.setIfInBounds_toArray, List.set_cons_zero, List.set_cons_succ]
    refine wpAnyH_done (by kernel_rfl) ?_ _
    go_wp2
    go_ret
    rw [HE.out]
    exact HM.out
  · have hk1 : 0 < K.length := by have : n = 1 := by simpa [fitsNB] using hn
                                  have := HKN.out; omega
    obtain ⟨b, off, y0, a0, c0, rfl, hc0, hn0, hm0, hg0, hl0⟩ := HEL.out 0 (by omega)
    have hcell0 := hc0 _ hB
    simp only [Nat.add_zero] at hcell0 hc0
    have HE : Hid (putL ⟨9, n, fr, to, ts, num⟩ (K.map LsV.nds) = notL (onceL fr to (notL (y0.map (·.x))))) := by simp only [Hid, putL]; rw [hm0]; rfl
    have HCE : Hid (∀ X, Below (W.alloc (.cells #[.int .i64 9, .int .i64 n, .int .i64 fr, .int .i64 to, .slice ta ts.length tc, .int .i64 num] 37)).heap.size (W.alloc (.cells #[.int .i64 9, .int .i64 n, .int .i64 fr, .int .i64 to, .slice ta ts.length tc, .int .i64 num] 37)) X → X.cell? ⟨W.heap.size, 2, none⟩ = some (.int .i64 fr) ∧ X.cell? ⟨W.heap.size, 3, none⟩ = some (.int .i64 to) ∧ X.cell? ⟨b, off, none⟩ = some (.slice a0 y0.length c0)) := fun X hX => ⟨(HCELL.out X hX).1, (HCELL.out X hX).2, hc0 X (hB.trans (hX.mono hB.size))⟩
    have HBW : Hid (∀ X, Below (W.alloc (.cells #[.int .i64 9, .int .i64 n, .int .i64 fr, .int .i64 to, .slice ta ts.length tc, .int .i64 num] 37)).heap.size (W.alloc (.cells #[.int .i64 9, .int .i64 n, .int .i64 fr, .int .i64 to, .slice ta ts.length tc, .int .i64 num] 37)) X → Below W.heap.size W X) := fun X hX => hB.trans (hX.mono hB.size)
    have HN0 : Hid (∀ X, Below W.heap.size W X → Calls Try.prog 19 #[.slice a0 y0.length c0] X (Makes X (notL (y0.map (·.x))))) := fun X hX => not_any a0 c0 y0 X (hn0.below hX) (by omega)
    have HL0 : Hid ((notL (y0.map (·.x))).length ≤ 1048577) := by have := notL_len (y0.map (·.x)); rw [List.length_map] at this; show _ ≤ _; omega
    have HG0 : Hid (GoodN (notL (y0.map (·.x)))) := notL_good hg0
    have HL1 : Hid ((onceL fr to (notL (y0.map (·.x)))).length ≤ 1048579) := by have := sinceL_len fr to [tt] (notL (y0.map (·.x))); have := HL0.out; show _ ≤ _; unfold onceL; simp at *; omega
    have HG1 : Hid (GoodN (onceL fr to (notL (y0.map (·.x))))) := sinceL_good good_one HG0.out
    clear hc0 hn0 hm0 hg0 hn hgy HEL
    go_enter Try.func65, Try.ntmps65
    go_wp2_with fail
    have HBB : Hid (Below (W.alloc (.cells #[.int .i64 9, .int .i64 n, .int .i64 fr, .int .i64 to, .slice ta ts.length tc, .int .i64 num] 37)).heap.size (W.alloc (.cells #[.int .i64 9, .int .i64 n, .int .i64 fr, .int .i64 to, .slice ta ts.length tc, .int .i64 num] 37)) (W.alloc (.cells #[.int .i64 9, .int .i64 n, .int .i64 fr, .int .i64 to, .slice ta ts.length tc, .int .i64 num] 37)).drew) := (Below.refl _ _).drew
    refine wp_region_held_drew (S := fun W' => W'.cell? ⟨W.heap.size, 2, none⟩ = some (.int .i64 fr) ∧ W'.cell? ⟨W.heap.size, 3, none⟩ = some (.int .i64 to) ∧ W'.cell? ⟨b, off, none⟩ = some (.slice a0 y0.length c0)) (by kernel_rfl) (HCE.out _ HBB.out) (fun hHeld => ?_)
    refine wpAnyH_take (i := 0) (oi := { dst := some 50, op := Op.fieldAddr 37 (Operand.tmp 2) 2, type := 0, pos := "core.go:74", after := #[], guard := none }) (v := ?_) rfl (by kernel_rfl) (by kernel_rfl) (by kernel_rfl) (fun _ _ _ h => h) (Or.inl ⟨by rfl, ?_⟩) hHeld ?_
    rotate_left
    · (intro w hSw; (try dsimp only at hSw); go_simp; all_goals (try with_reducible rfl))
    try simp only [Act.put, List.setIfInBounds_toArray, List.set_cons_zero, List.set_cons_succ]
    refine wpAnyH_take (i := 1) (oi := { dst := some 51, op := Op.load 3 (Operand.tmp 50), type := 3, pos := "core.go:74", after := #[{ on := 0, ground := Ground.data }], guard := none }) (v := ?_) rfl (by kernel_rfl) (by kernel_rfl) (by kernel_rfl) (fun _ _ _ h => h) (Or.inl ⟨by rfl, ?_⟩) hHeld ?_
    rotate_left
    · (intro w hSw; (try dsimp only at hSw); go_simp; all_goals (try with_reducible rfl))
    try simp only [Act.put, List.setIfInBounds_toArray, List.set_cons_zero, List.set_cons_succ]
    refine wpAnyH_take (i := 2) (oi := { dst := some 52, op := Op.fieldAddr 37 (Operand.tmp 2) 3, type := 0, pos := "core.go:74", after := #[], guard := none }) (v := ?_) rfl (by kernel_rfl) (by kernel_rfl) (by kernel_rfl) (fun _ _ _ h => h) (Or.inl ⟨by rfl, ?_⟩) hHeld ?_
    rotate_left
    · (intro w hSw; (try dsimp only at hSw); go_simp; all_goals (try with_reducible rfl))
    try simp only [Act.put, List.setIfInBounds_toArray, List.set_cons_zero, List.set_cons_succ]
    refine wpAnyH_take (i := 3) (oi := { dst := some 53, op := Op.load 3 (Operand.tmp 52), type := 3, pos := "core.go:74", after := #[{ on := 2, ground := Ground.data }], guard := none }) (v := ?_) rfl (by kernel_rfl) (by kernel_rfl) (by kernel_rfl) (fun _ _ _ h => h) (Or.inl ⟨by rfl, ?_⟩) hHeld ?_
    rotate_left
    · (intro w hSw; (try dsimp only at hSw); go_simp; all_goals (try with_reducible rfl))
    try simp only [Act.put, List.setIfInBounds_toArray, List.set_cons_zero, List.set_cons_succ]
    refine wpAnyH_take (i := 4) (oi := { dst := some 54, op := Op.move (Operand.tmp 1), type := 39, pos := "core.go:74", after := #[], guard := none }) (v := ?_) rfl (by kernel_rfl) (by kernel_rfl) (by kernel_rfl) (fun _ _ _ h => h) (Or.inl ⟨by rfl, ?_⟩) hHeld ?_
    rotate_left
    · (intro w hSw; (try dsimp only at hSw); go_simp; all_goals (try with_reducible rfl))
    try simp only [Act.put, List.setIfInBounds_toArray, List.set_cons_zero, List.set_cons_succ]
    refine wpAnyH_take (i := 5) (oi := { dst := some 55, op := Op.indexAddr 39 (Operand.tmp 54) (Operand.const (Value.int IntKind.i64 0)), type := 0, pos := "core.go:74", after := #[{ on := 4, ground := Ground.data }], guard := none }) (v := ?_) rfl (by kernel_rfl) (by kernel_rfl) (by kernel_rfl) (fun _ _ _ h => h) (Or.inl ⟨by rfl, ?_⟩) hHeld ?_
    rotate_left
    · (intro w hSw; (try dsimp only at hSw); go_simp; all_goals (try with_reducible rfl))
    try simp only [Act.put, List.setIfInBounds_toArray, List.set_cons_zero, List.set_cons_succ]
    refine wpAnyH_take (i := 6) (oi := { dst := some 56, op := Op.load 28 (Operand.tmp 55), type := 28, pos := "core.go:74", after := #[{ on := 5, ground := Ground.data }], guard := none }) (v := ?_) rfl (by kernel_rfl) (by kernel_rfl) (by kernel_rfl) (fun _ _ _ h => h) (Or.inl ⟨by rfl, ?_⟩) hHeld ?_
    rotate_left
    · (intro w hSw; (try dsimp only at hSw); go_simp; all_goals (try with_reducible rfl))
    try simp only [Act.put, List.setIfInBounds_toArray, List.set_cons_zero, List.set_cons_succ]
    refine wpAnyH_ready (rs := [7]) (by kernel_rfl) (by simp) ?_
    refine AllReadyH.cons (o := { dst := some 57, op := Op.call { callee := Callee.value (Operand.func 19), args := #[Operand.tmp 56], argTypes := #[28] }, type := 28, pos := "core.go:74", after := #[{ on := 6, ground := Ground.data }], guard := none }) rfl (fun K hK => ?_) AllReadyH.nil
    go_simp
    refine Calls.mono (HN0.out _ (HBW.out _ HBB.out)) ?_
    intro e W2 hm
    obtain ⟨v2, rfl, hm⟩ := hm.ret
    obtain ⟨za, zs, zc, rfl, hzn, _, hze, hzb⟩ := hm.at HG0.out (by have := HL0.out; omega)
    have HBB : Hid (Below (W.alloc (.cells #[.int .i64 9, .int .i64 n, .int .i64 fr, .int .i64 to, .slice ta ts.length tc, .int .i64 num] 37)).heap.size (W.alloc (.cells #[.int .i64 9, .int .i64 n, .int .i64 fr, .int .i64 to, .slice ta ts.length tc, .int .i64 num] 37)) W2) := HBB.out.trans (hzb.mono HBB.out.size)
    have hzl : zs.length ≤ 1048577 := by have h1 := congrArg List.length hze; rw [List.length_map] at h1; have := HL0.out; omega
    have hon := once_any fr to za zc zs W2 hzn (by omega)
    rw [hze] at hon
    have HON : Hid _ := hon
    clear hm hzn hze hzb hon
    go_wp2_with fail
    refine hK.out _ _ (HCE.out _ HBB.out) (fun hHeld => ?_)
    clear hK K
    try simp only [Act.put, List.setIfInBounds_toArray, List.set_cons_zero, List.set_cons_succ]
    refine wpAnyH_ready (rs := [8]) (by kernel_rfl) (by simp) ?_
    refine AllReadyH.cons (o := { dst := some 58, op := Op.call { callee := Callee.value (Operand.func 78), args := #[Operand.tmp 51, Operand.tmp 53, Operand.tmp 57], argTypes := #[3, 3, 28] }, type := 28, pos := "core.go:74", after := #[{ on := 1, ground := Ground.data }, { on := 3, ground := Ground.data }, { on := 7, ground := Ground.data }, { on := 7, ground := Ground.chain }], guard := none }) rfl (fun K hK => ?_) AllReadyH.nil
    go_simp
    refine Calls.mono HON.out ?_
    intro e W3 hm
    obtain ⟨v3, rfl, hm⟩ := hm.ret
    obtain ⟨xa, xs, xc, rfl, hxn, _, hxe, hxb⟩ := hm.at HG1.out (by have := HL1.out; omega)
    have HBB : Hid (Below (W.alloc (.cells #[.int .i64 9, .int .i64 n, .int .i64 fr, .int .i64 to, .slice ta ts.length tc, .int .i64 num] 37)).heap.size (W.alloc (.cells #[.int .i64 9, .int .i64 n, .int .i64 fr, .int .i64 to, .slice ta ts.length tc, .int .i64 num] 37)) W3) := HBB.out.trans (hxb.mono HBB.out.size)
    have hxl : xs.length ≤ 1048579 := by have h1 := congrArg List.length hxe; rw [List.length_map] at h1; have := HL1.out; omega
    have hno := not_any xa xc xs W3 hxn (by omega)
    rw [hxe] at hno
    have HNO : Hid _ := hno
    clear hm hxn hxe hxb hno
    go_wp2_with fail
    refine hK.out _ _ (HCE.out _ HBB.out) (fun hHeld => ?_)
    clear hK K
    try simp only [Act.put, List.setIfInBounds_toArray, List.set_cons_zero, List.set_cons_succ]
    refine wpAnyH_ready (rs := [9]) (by kernel_rfl) (by simp) ?_
    refine AllReadyH.cons (o := { dst := some 59, op := Op.call { callee := Callee.value (Operand.func 19), args := #[Operand.tmp 58], argTypes := #[28] }, type := 28, pos := "core.go:74", after := #[{ on := 8, ground := Ground.data }, { on := 8, ground := Ground.chain }], guard := none }) rfl (fun K hK => ?_) AllReadyH.nil
    go_simp
    refine Calls.mono (HNO.out) ?_
    intro e W9 hm
    obtain ⟨v, rfl, hm⟩ := hm.ret
    have HM : Hid (Makes W _ (.returned v) W9) := hm.up (HBW.out _ HBB.out)
    have HBB : Hid (Below (W.alloc (.cells #[.int .i64 9, .int .i64 n, .int .i64 fr, .int .i64 to, .slice ta ts.length tc, .int .i64 num] 37)).heap.size (W.alloc (.cells #[.int .i64 9, .int .i64 n, .int .i64 fr, .int .i64 to, .slice ta ts.length tc, .int .i64 num] 37)) W9) := by obtain ⟨_, _, _, _, _, q⟩ := hm; exact HBB.out.trans (q.mono HBB.out.size)
    clear hm
    go_wp2_with fail
    refine hK.out _ _ (HCE.out _ HBB.out) (fun hHeld => ?_)
    clear hK K
    try simp only [Act.put, List.setIfInBounds_toArray, List.set_cons_zero, List.set_cons_succ]
    refine wpAnyH_take (i := 10) (oi := { dst := some 4, op := Op.assign (Operand.tmp 59), type := 28, pos := "core.go:74", after := #[{ on := 9, ground := Ground.data }, { on := 9, ground := Ground.chain }, { on := 0, ground := Ground.phase }, { on := 1, ground := Ground.phase }, { on := 2, ground := Ground.phase }, { on := 3, ground := Ground.phase }, { on := 4, ground := Ground.phase }, { on := 5, ground := Ground.phase }, { on := 6, ground := Ground.phase }, { on := 7, ground := Ground.phase }, { on := 8, ground := Ground.phase }, { on := 9, ground := Ground.phase }], guard := none }) (v := ?_) rfl (by kernel_rfl) (by kernel_rfl) (by kernel_rfl) (fun _ _ _ h => h) (Or.inl ⟨by rfl, ?_⟩) hHeld ?_
    rotate_left
    · (intro w hSw; (try dsimp only at hSw); go_simp; all_goals (try with_reducible rfl))
    try simp only [Act.put, List.setIfInBounds_toArray, List.set_cons_zero, List.set_cons_succ]
    refine wpAnyH_done (by kernel_rfl) ?_ _
    go_wp2
    go_ret
    rw [HE.out]
    exact HM.out
  · have hk0 : 0 < K.length := by have : n = 2 := by simpa [fitsNB] using hn
                                  have := HKN.out; omega
    have hk1 : 1 < K.length := by have : n = 2 := by simpa [fitsNB] using hn
                                  have := HKN.out; omega
    obtain ⟨b, off, y0, a0, c0, rfl, hc0, hn0, hm0, hg0, hl0⟩ := HEL.out 0 (by omega)
    obtain ⟨b1, off1, y1, a1, c1, e1, hc1, hn1, hm1, hg1, hl1⟩ := HEL.out 1 (by omega)
    simp only [Option.some.injEq, Addr.mk.injEq, and_true] at e1
    obtain ⟨rfl, rfl⟩ := e1
    have hcell0 := hc0 _ hB
    have hcell1 := hc1 _ hB
    simp only [Nat.add_zero] at hcell0 hc0
    have hk2 : (1 : Int) < K.length := by omega
    have HE : Hid (putL ⟨10, n, fr, to, ts, num⟩ (K.map LsV.nds) = sinceL fr to (y0.map (·.x)) (y1.map (·.x))) := by simp only [Hid, putL]; rw [hm0, hm1]; rfl
    have HCE : Hid (∀ X, Below (W.alloc (.cells #[.int .i64 10, .int .i64 n, .int .i64 fr, .int .i64 to, .slice ta ts.length tc, .int .i64 num] 37)).heap.size (W.alloc (.cells #[.int .i64 10, .int .i64 n, .int .i64 fr, .int .i64 to, .slice ta ts.length tc, .int .i64 num] 37)) X → X.cell? ⟨W.heap.size, 2, none⟩ = some (.int .i64 fr) ∧ X.cell? ⟨W.heap.size, 3, none⟩ = some (.int .i64 to) ∧ X.cell? ⟨b, off, none⟩ = some (.slice a0 y0.length c0) ∧ X.cell? ⟨b, off + 1, none⟩ = some (.slice a1 y1.length c1)) := fun X hX => ⟨(HCELL.out X hX).1, (HCELL.out X hX).2, hc0 X (hB.trans (hX.mono hB.size)), hc1 X (hB.trans (hX.mono hB.size))⟩
    have HBW : Hid (∀ X, Below (W.alloc (.cells #[.int .i64 10, .int .i64 n, .int .i64 fr, .int .i64 to, .slice ta ts.length tc, .int .i64 num] 37)).heap.size (W.alloc (.cells #[.int .i64 10, .int .i64 n, .int .i64 fr, .int .i64 to, .slice ta ts.length tc, .int .i64 num] 37)) X → Below W.heap.size W X) := fun X hX => hB.trans (hX.mono hB.size)
    have HON : Hid (∀ X, Below W.heap.size W X → Calls Try.prog 21 #[.int .i64 fr, .int .i64 to, .slice a0 y0.length c0, .slice a1 y1.length c1] X (Makes X (sinceL fr to (y0.map (·.x)) (y1.map (·.x))))) := fun X hX => since_any fr to a0 a1 c0 c1 y0 y1 X (hn0.below hX) (hn1.below hX) (by omega) (by omega)
    clear hc0 hn0 hm0 hg0 hc1 hn1 hm1 hg1 hn hgy HEL
    go_enter Try.func65, Try.ntmps65
    go_wp2_with fail
    have HBB : Hid (Below (W.alloc (.cells #[.int .i64 10, .int .i64 n, .int .i64 fr, .int .i64 to, .slice ta ts.length tc, .int .i64 num] 37)).heap.size (W.alloc (.cells #[.int .i64 10, .int .i64 n, .int .i64 fr, .int .i64 to, .slice ta ts.length tc, .int .i64 num] 37)) (W.alloc (.cells #[.int .i64 10, .int .i64 n, .int .i64 fr, .int .i64 to, .slice ta ts.length tc, .int .i64 num] 37)).drew) := (Below.refl _ _).drew
    refine wp_region_held_drew (S := fun W' => W'.cell? ⟨W.heap.size, 2, none⟩ = some (.int .i64 fr) ∧ W'.cell? ⟨W.heap.size, 3, none⟩ = some (.int .i64 to) ∧ W'.cell? ⟨b, off, none⟩ = some (.slice a0 y0.length c0) ∧ W'.cell? ⟨b, off + 1, none⟩ = some (.slice a1 y1.length c1)) (by kernel_rfl) (HCE.out _ HBB.out) (fun hHeld => ?_)
    refine wpAnyH_take (i := 0) (oi := { dst := some 62, op := Op.fieldAddr 37 (Operand.tmp 2) 2, type := 0, pos := "core.go:76", after := #[], guard := none }) (v := ?_) rfl (by kernel_rfl) (by kernel_rfl) (by kernel_rfl) (fun _ _ _ h => h) (Or.inl ⟨by rfl, ?_⟩) hHeld ?_
    rotate_left
    · (intro w hSw; (try dsimp only at hSw); go_simp; all_goals (try with_reducible rfl))
    try simp only [Act.put, List.setIfInBounds_toArray, List.set_cons_zero, List.set_cons_succ]
    refine wpAnyH_take (i := 1) (oi := { dst := some 63, op := Op.load 3 (Operand.tmp 62), type := 3, pos := "core.go:76", after := #[{ on := 0, ground := Ground.data }], guard := none }) (v := ?_) rfl (by kernel_rfl) (by kernel_rfl) (by kernel_rfl) (fun _ _ _ h => h) (Or.inl ⟨by rfl, ?_⟩) hHeld ?_
    rotate_left
    · (intro w hSw; (try dsimp only at hSw); go_simp; all_goals (try with_reducible rfl))
    try simp only [Act.put, List.setIfInBounds_toArray, List.set_cons_zero, List.set_cons_succ]
    refine wpAnyH_take (i := 2) (oi := { dst := some 64, op := Op.fieldAddr 37 (Operand.tmp 2) 3, type := 0, pos := "core.go:76", after := #[], guard := none }) (v := ?_) rfl (by kernel_rfl) (by kernel_rfl) (by kernel_rfl) (fun _ _ _ h => h) (Or.inl ⟨by rfl, ?_⟩) hHeld ?_
    rotate_left
    · (intro w hSw; (try dsimp only at hSw); go_simp; all_goals (try with_reducible rfl))
    try simp only [Act.put, List.setIfInBounds_toArray, List.set_cons_zero, List.set_cons_succ]
    refine wpAnyH_take (i := 3) (oi := { dst := some 65, op := Op.load 3 (Operand.tmp 64), type := 3, pos := "core.go:76", after := #[{ on := 2, ground := Ground.data }], guard := none }) (v := ?_) rfl (by kernel_rfl) (by kernel_rfl) (by kernel_rfl) (fun _ _ _ h => h) (Or.inl ⟨by rfl, ?_⟩) hHeld ?_
    rotate_left
    · (intro w hSw; (try dsimp only at hSw); go_simp; all_goals (try with_reducible rfl))
    try simp only [Act.put, List.setIfInBounds_toArray, List.set_cons_zero, List.set_cons_succ]
    refine wpAnyH_take (i := 4) (oi := { dst := some 66, op := Op.move (Operand.tmp 1), type := 39, pos := "core.go:76", after := #[], guard := none }) (v := ?_) rfl (by kernel_rfl) (by kernel_rfl) (by kernel_rfl) (fun _ _ _ h => h) (Or.inl ⟨by rfl, ?_⟩) hHeld ?_
    rotate_left
    · (intro w hSw; (try dsimp only at hSw); go_simp; all_goals (try with_reducible rfl))
    try simp only [Act.put, List.setIfInBounds_toArray, List.set_cons_zero, List.set_cons_succ]
    refine wpAnyH_take (i := 5) (oi := { dst := some 67, op := Op.indexAddr 39 (Operand.tmp 66) (Operand.const (Value.int IntKind.i64 0)), type := 0, pos := "core.go:76", after := #[{ on := 4, ground := Ground.data }], guard := none }) (v := ?_) rfl (by kernel_rfl) (by kernel_rfl) (by kernel_rfl) (fun _ _ _ h => h) (Or.inl ⟨by rfl, ?_⟩) hHeld ?_
    rotate_left
    · (intro w hSw; (try dsimp only at hSw); go_simp; all_goals (try with_reducible rfl))
    try simp only [Act.put, List.setIfInBounds_toArray, List.set_cons_zero, List.set_cons_succ]
    refine wpAnyH_take (i := 6) (oi := { dst := some 68, op := Op.load 28 (Operand.tmp 67), type := 28, pos := "core.go:76", after := #[{ on := 5, ground := Ground.data }], guard := none }) (v := ?_) rfl (by kernel_rfl) (by kernel_rfl) (by kernel_rfl) (fun _ _ _ h => h) (Or.inl ⟨by rfl, ?_⟩) hHeld ?_
    rotate_left
    · (intro w hSw; (try dsimp only at hSw); go_simp; all_goals (try with_reducible rfl))
    try simp only [Act.put, List.setIfInBounds_toArray, List.set_cons_zero, List.set_cons_succ]
    refine wpAnyH_take (i := 7) (oi := { dst := some 69, op := Op.move (Operand.tmp 1), type := 39, pos := "core.go:76", after := #[], guard := none }) (v := ?_) rfl (by kernel_rfl) (by kernel_rfl) (by kernel_rfl) (fun _ _ _ h => h) (Or.inl ⟨by rfl, ?_⟩) hHeld ?_
    rotate_left
    · (intro w hSw; (try dsimp only at hSw); go_simp; all_goals (try with_reducible rfl))
    try simp only [Act.put, List.setIfInBounds_toArray, List.set_cons_zero, List.set_cons_succ]
    refine wpAnyH_take (i := 8) (oi := { dst := some 70, op := Op.indexAddr 39 (Operand.tmp 69) (Operand.const (Value.int IntKind.i64 1)), type := 0, pos := "core.go:76", after := #[{ on := 7, ground := Ground.data }], guard := none }) (v := ?_) rfl (by kernel_rfl) (by kernel_rfl) (by kernel_rfl) (fun _ _ _ h => h) (Or.inl ⟨by rfl, ?_⟩) hHeld ?_
    rotate_left
    · (intro w hSw; (try dsimp only at hSw); go_simp; all_goals (try with_reducible rfl))
    try simp only [Act.put, List.setIfInBounds_toArray, List.set_cons_zero, List.set_cons_succ]
    refine wpAnyH_take (i := 9) (oi := { dst := some 71, op := Op.load 28 (Operand.tmp 70), type := 28, pos := "core.go:76", after := #[{ on := 8, ground := Ground.data }], guard := none }) (v := ?_) rfl (by kernel_rfl) (by kernel_rfl) (by kernel_rfl) (fun _ _ _ h => h) (Or.inl ⟨by rfl, ?_⟩) hHeld ?_
    rotate_left
    · (intro w hSw; (try dsimp only at hSw); go_simp; all_goals (try with_reducible rfl))
    try simp only [Act.put, List.setIfInBounds_toArray, List.set_cons_zero, List.set_cons_succ]
    refine wpAnyH_ready (rs := [10]) (by kernel_rfl) (by simp) ?_
    refine AllReadyH.cons (o := { dst := some 72, op := Op.call { callee := Callee.value (Operand.func 21), args := #[Operand.tmp 63, Operand.tmp 65, Operand.tmp 68, Operand.tmp 71], argTypes := #[3, 3, 28, 28] }, type := 28, pos := "core.go:76", after := #[{ on := 1, ground := Ground.data }, { on := 3, ground := Ground.data }, { on := 6, ground := Ground.data }, { on := 9, ground := Ground.data }], guard := none }) rfl (fun K hK => ?_) AllReadyH.nil
    go_simp
    refine Calls.mono (HON.out _ (HBW.out _ HBB.out)) ?_
    intro e W9 hm
    obtain ⟨v, rfl, hm⟩ := hm.ret
    have HM : Hid (Makes W _ (.returned v) W9) := hm.up (HBW.out _ HBB.out)
    have HBB : Hid (Below (W.alloc (.cells #[.int .i64 10, .int .i64 n, .int .i64 fr, .int .i64 to, .slice ta ts.length tc, .int .i64 num] 37)).heap.size (W.alloc (.cells #[.int .i64 10, .int .i64 n, .int .i64 fr, .int .i64 to, .slice ta ts.length tc, .int .i64 num] 37)) W9) := by obtain ⟨_, _, _, _, _, q⟩ := hm; exact HBB.out.trans (q.mono HBB.out.size)
    clear hm
    go_wp2_with fail
    refine hK.out _ _ (HCE.out _ HBB.out) (fun hHeld => ?_)
    clear hK K
    try simp only [Act.put, List.setIfInBounds_toArray, List.set_cons_zero, List.set_cons_succ]
    refine wpAnyH_take (i := 11) (oi := { dst := some 4, op := Op.assign (Operand.tmp 72), type := 28, pos := "core.go:76", after := #[{ on := 10, ground := Ground.data }, { on := 10, ground := Ground.chain }, { on := 0, ground := Ground.phase }, { on := 1, ground := Ground.phase }, { on := 2, ground := Ground.phase }, { on := 3, ground := Ground.phase }, { on := 4, ground := Ground.phase }, { on := 5, ground := Ground.phase }, { on := 6, ground := Ground.phase }, { on := 7, ground := Ground.phase }, { on := 8, ground := Ground.phase }, { on := 9, ground := Ground.phase }, { on := 10, ground := Ground.phase }], guard := none }) (v := ?_) rfl (by kernel_rfl) (by kernel_rfl) (by kernel_rfl) (fun _ _ _ h => h) (Or.inl ⟨by rfl, ?_⟩) hHeld ?_
    rotate_left
    · (intro w hSw; (try dsimp only at hSw); go_simp; all_goals (try with_reducible rfl))
    try simp only [Act.put, List.setIfInBounds_toArray, List.set_cons_zero, List.set_cons_succ]
    refine wpAnyH_done (by kernel_rfl) ?_ _
    go_wp2
    go_ret
    rw [HE.out]
    exact HM.out
end Go.Proofs.Ytpgdkgilmcipkaa
namespace Go.Proofs.Ytpgdkgilmcipkaa
open Go.RowKit Go.Maps Go.ChangeShapes
set_option linter.unusedVariables false
set_option maxRecDepth 100000

theorem PartD.kids {d : Nat} {x : Nd} {t : List Nd} (h : PartD (d + 1) (x :: t)) (hl : (x :: t).length ≤ 1000) : fitsB x = true ∧ (splitL t).length = x.n.toNat ∧ (splitL t).flatten = t ∧ ∀ p ∈ splitL t, PartD d p := by
  have hr := h.rest
  simp only [restD] at hr
  split at hr
  · rename_i hx
    obtain ⟨ps, h1, h2, h3⟩ := iter_parts d _ (rest_part d) _ _ hr
    rw [List.append_nil] at h2
    subst h2
    simp only [List.length_cons] at hl
    have e := splitL_parts ps h3 (by omega)
    rw [e]
    exact ⟨hx, h1, rfl, h3⟩
  · cases hr
/-- A tree's core. -/
def normD : Nat → List Nd → List Nd
  | 0, _ => []
  | _ + 1, [] => []
  | d + 1, x :: t => putL x ((splitL t).map (normD d))
theorem getD_tot (l : List (List Nd)) : (l.getD 0 []).length ≤ totN l ∧ (l.getD 0 []).length + (l.getD 1 []).length ≤ totN l := by
  match l with
  | [] => simp [totN]
  | [x] => simp [totN]
  | x :: y :: l => first | (simp [totN]; done) | (simp [totN]; omega)
theorem getD_good {l : List (List Nd)} (h : ∀ n ∈ l, GoodN n) (i : Nat) : GoodN (l.getD i []) := by
  by_cases hi : i < l.length
  · exact h _ (getD_mem [] hi)
  · rw [List.getD_eq_getElem?_getD, List.getElem?_eq_none (by omega)]
    intro x hx; simp at hx
theorem putL_ok (x : Nd) (l : List (List Nd)) (hx : GoodN [x]) (h : ∀ n ∈ l, GoodN n) : GoodN (putL x l) ∧ (putL x l).length ≤ totN l + l.length + 4 := by
  have g0 := getD_good h 0
  have g1 := getD_good h 1
  obtain ⟨t0, t1⟩ := getD_tot l
  have gn : ∀ n ∈ l.map notL, GoodN n := fun n hn => by
    obtain ⟨m, hm, rfl⟩ := List.mem_map.1 hn
    exact notL_good (h m hm)
  unfold putL
  split
  · exact ⟨notL_good g0, by have := notL_len (l.getD 0 []); omega⟩
  split
  · refine ⟨notL_good (orL_good gn), ?_⟩
    unfold andL
    have h1 := notL_len (orL (l.map notL))
    have h2 := orL_len (l.map notL)
    have h3 := map_notL_tot l
    omega
  split
  · exact ⟨orL_good h, by have := orL_len l; omega⟩
  split
  · refine ⟨orL_good fun n hn => ?_, ?_⟩
    · simp only [List.mem_cons, List.not_mem_nil, or_false] at hn
      rcases hn with rfl | rfl
      · exact notL_good g0
      · exact g1
    · have h1 := orL_len [notL (l.getD 0 []), l.getD 1 []]
      have h2 : totN [notL (l.getD 0 []), l.getD 1 []] = (notL (l.getD 0 [])).length + (l.getD 1 []).length := by simp [totN]
      have h3 := notL_len (l.getD 0 [])
      omega
  split
  · exact ⟨prevL_good g0, by have := prevL_len (l.getD 0 []); omega⟩
  split
  · exact ⟨sinceL_good good_one g0, by have := sinceL_len x.fr x.to [tt] (l.getD 0 []); unfold onceL; simp at *; omega⟩
  split
  · refine ⟨notL_good (sinceL_good good_one (notL_good g0)), ?_⟩
    have h1 := notL_len (onceL x.fr x.to (notL (l.getD 0 [])))
    have h2 : (onceL x.fr x.to (notL (l.getD 0 []))).length ≤ 1 + (notL (l.getD 0 [])).length + 1 := sinceL_len x.fr x.to [tt] (notL (l.getD 0 []))
    have h3 := notL_len (l.getD 0 [])
    omega
  split
  · exact ⟨sinceL_good g0 g1, by have := sinceL_len x.fr x.to (l.getD 0 []) (l.getD 1 []); omega⟩
  · exact ⟨fun y hy => by simp only [List.mem_singleton] at hy; subst hy; exact hx x (by simp), by simp⟩
theorem norm_ok (d : Nat) : ∀ n : List Nd, PartD d n → n.length ≤ 1000 → GoodN n → GoodN (normD d n) ∧ (normD d n).length + 1 ≤ 5 * n.length := by
  induction d with
  | zero => intro n h; have := h []; simp [restD] at this
  | succ d ih =>
    intro n h hl hg
    cases n with
    | nil => exact absurd rfl h.ne
    | cons x t =>
      obtain ⟨_, _, hfl, hk⟩ := h.kids hl
      simp only [List.length_cons] at hl ⊢
      have hsub : ∀ p ∈ splitL t, p.length ≤ 1000 ∧ GoodN p := fun p hp => by
        refine ⟨?_, hg.sub fun y hy => by simp [splitL_sub hp y hy]⟩
        have : p.length ≤ t.length := by
          rw [← hfl]
          obtain ⟨A, B, e⟩ := List.append_of_mem hp
          rw [e]; simp; omega
        omega
      have hall : ∀ p ∈ splitL t, GoodN (normD d p) ∧ (normD d p).length + 1 ≤ 5 * p.length := fun p hp => ih p (hk p hp) (hsub p hp).1 (hsub p hp).2
      have hsum : ∀ ps : List (List Nd), (∀ p ∈ ps, (normD d p).length + 1 ≤ 5 * p.length) → totN (ps.map (normD d)) + (ps.map (normD d)).length ≤ 5 * ps.flatten.length := by
        intro ps
        induction ps with
        | nil => intro _; simp [totN]
        | cons p ps ip =>
          intro hp
          have h1 := ip fun q hq => hp q (by simp [hq])
          have h2 := hp p (by simp)
          have h3 : totN ((p :: ps).map (normD d)) = (normD d p).length + totN (ps.map (normD d)) := by simp [totN]
          rw [h3, List.map_cons, List.length_cons, List.flatten_cons, List.length_append]; omega
      have hs := hsum (splitL t) fun p hp => (hall p hp).2
      rw [hfl] at hs
      have hs5 : totN ((splitL t).map (normD d)) + ((splitL t).map (normD d)).length ≤ 5 * t.length := hs
      obtain ⟨q1, q2⟩ := putL_ok x ((splitL t).map (normD d)) (fun y hy => by simp only [List.mem_singleton] at hy; subst hy; exact hg y (by simp)) fun n hn => by
        obtain ⟨p, hp, rfl⟩ := List.mem_map.1 hn
        exact (hall p hp).1
      refine ⟨q1, ?_⟩
      show (putL x ((splitL t).map (normD d))).length + 1 ≤ _
      omega
set_option maxHeartbeats 16000000 in
theorem norm_any (d : Nat) : ∀ (a : Option Addr) (cap : Nat) (ys : List NdV) (W : World) (h : NdsAt W a cap ys) (hp : PartD d (ys.map (·.x))) (hl : ys.length ≤ 1000) (hg : GoodN (ys.map (·.x))),
    Calls Try.prog 46 #[.slice a ys.length cap] W (Makes W (normD d (ys.map (·.x)))) := by
  induction d with
  | zero => intro a cap ys W h hp; have := hp []; simp [restD] at this
  | succ d ih =>
    intro a cap ys W h hp hl hg
    have HIH : Hid (∀ (a : Option Addr) (cap : Nat) (ys : List NdV) (W : World) (h : NdsAt W a cap ys) (hp : PartD d (ys.map (·.x))) (hl : ys.length ≤ 1000) (hg : GoodN (ys.map (·.x))), Calls Try.prog 46 #[.slice a ys.length cap] W (Makes W (normD d (ys.map (·.x))))) := ih
    clear ih
    have hsp := split2_any a cap ys W W h (Below.refl _ _)
    have HY : Hid (NdsAt W a cap ys) := h
    have h0 : 0 < ys.length := by
      cases ys with
      | nil => exact absurd rfl hp.ne
      | cons y ys => simp
    obtain ⟨b, off, rfl, hcell⟩ := h.row 0 h0
    have HCELL : Hid (∀ j, j < 6 → W.cell? ⟨b, off + j, none⟩ = (ndC (ys.getD 0 default))[j]?) := fun j hj => by have := hcell j hj; simpa using this
    have hcons : ys.map (·.x) = (ys.getD 0 default).x :: (ys.map (·.x)).drop 1 := by
      cases ys with
      | nil => simp at h0
      | cons y ys => simp
    have hp2 := hp
    rw [hcons] at hp2
    obtain ⟨hfx, hkn, hfl, hkd⟩ := hp2.kids (by rw [← hcons, List.length_map]; exact hl)
    have HTM : Hid (TmsAt W (ys.getD 0 default)) := h.terms _ (getD_mem default h0)
    have HGX : Hid (GoodN [(ys.getD 0 default).x]) := fun x hx => by simp only [List.mem_singleton] at hx; subst hx; exact hg _ (List.mem_map_of_mem (getD_mem default h0))
    have HFX : Hid (fitsNB (ys.getD 0 default).x.op (ys.getD 0 default).x.n = true) := by
      unfold fitsB at hfx
      simp only [Bool.and_eq_true] at hfx
      exact hfx.1.1
    have HKN : Hid ((splitL ((ys.map (·.x)).drop 1)).length = (ys.getD 0 default).x.n.toNat) := hkn
    have HKD : Hid (∀ p ∈ splitL ((ys.map (·.x)).drop 1), PartD d p ∧ p.length ≤ 1000 ∧ GoodN p) := fun p hpp => by
      refine ⟨hkd p hpp, ?_, hg.sub fun y hy => drop_sub y (splitL_sub hpp y hy)⟩
      have h1 : p.length ≤ (splitL ((ys.map (·.x)).drop 1)).flatten.length := by
        obtain ⟨A, B, e⟩ := List.append_of_mem hpp
        rw [e]; simp; omega
      rw [hfl, List.length_drop, List.length_map] at h1
      omega
    have HRES : Hid (normD (d + 1) (ys.map (·.x)) = putL (ys.getD 0 default).x ((splitL ((ys.map (·.x)).drop 1)).map (normD d))) := by
      show _ = _
      rw [hcons]
      simp [normD]
    have HTOT : Hid (totN ((splitL ((ys.map (·.x)).drop 1)).map (normD d)) + (splitL ((ys.map (·.x)).drop 1)).length ≤ 5000 ∧ ∀ n ∈ (splitL ((ys.map (·.x)).drop 1)).map (normD d), GoodN n) := by
      have hall : ∀ p ∈ splitL ((ys.map (·.x)).drop 1), GoodN (normD d p) ∧ (normD d p).length + 1 ≤ 5 * p.length := fun p hpp => norm_ok d p (HKD.out p hpp).1 (HKD.out p hpp).2.1 (HKD.out p hpp).2.2
      refine ⟨?_, fun n hn => by obtain ⟨p, hpp, rfl⟩ := List.mem_map.1 hn; exact (hall p hpp).1⟩
      have hsum : ∀ ps : List (List Nd), (∀ p ∈ ps, (normD d p).length + 1 ≤ 5 * p.length) → totN (ps.map (normD d)) + ps.length ≤ 5 * ps.flatten.length := by
        intro ps
        induction ps with
        | nil => intro _; simp [totN]
        | cons p ps ip =>
          intro hp
          have h1 := ip fun q hq => hp q (by simp [hq])
          have h2 := hp p (by simp)
          have h3 : totN ((p :: ps).map (normD d)) = (normD d p).length + totN (ps.map (normD d)) := by simp [totN]
          rw [h3, List.length_cons, List.flatten_cons, List.length_append]; omega
      have h1 := hsum _ fun p hpp => (hall p hpp).2
      rw [hfl, List.length_drop, List.length_map] at h1
      omega
    clear h hp hp2 hg hcell hcons hfx hkn hfl hkd
    generalize normD (d + 1) (ys.map (·.x)) = res at *
    obtain ⟨ps, hps⟩ : ∃ ps, splitL ((ys.map (·.x)).drop 1) = ps := ⟨_, rfl⟩
    rw [hps] at HKN HKD HRES HTOT
    have HPS : Hid (splitL ((ys.map (·.x)).drop 1) = ps) := hps
    clear hps
    go_enter Try.func46, Try.ntmps46
    go_wp2_with fail
    refine Calls.mono hsp ?_
    rintro e W1 ⟨v, Ls, rfl, ho, hnds, hall, hlen, hb1⟩
    obtain ⟨va, vc, rfl, _, _, hrow⟩ := ho.sl lsC_len default
    have HROW : Hid (∀ k, k < Ls.length → ∃ g, va = some ⟨g, 0, none⟩ ∧ ∀ X, Below W1.heap.size W1 X → X.cell? ⟨g, k, none⟩ = some (.slice (Ls.getD k default).a (Ls.getD k default).ys.length (Ls.getD k default).cap)) := fun k hk => by
      obtain ⟨g, e, _, _, hj⟩ := hrow k hk
      refine ⟨g, e, fun X hX => cell_up hX ?_⟩
      have := hj 0 (by omega)
      simpa [lsC] using this
    replace hnds := hnds.trans HPS.out
    have HND : Hid (Ls.map LsV.nds = ps) := hnds
    have HAT : Hid (∀ y ∈ Ls, NdsAt W y.a y.cap y.ys) := hall
    have HB1 : Hid (Below W.heap.size W W1) := hb1
    have hlsl : Ls.length ≤ 5000 := by have h1 := congrArg List.length hnds; rw [List.length_map] at h1; have := HTOT.out.1; omega
    have HLN : Hid (Ls.length = ps.length) := by have h1 := congrArg List.length hnds; rw [List.length_map] at h1; exact h1
    clear ho hnds hall hlen hb1 hrow hsp
    go_wp2
    go_loopw [3, 9] (fun s i wr => ∃ (k : Nat) (L : List LsV) (la : Option Addr) (ln lc : Nat), k ≤ Ls.length ∧ i = .int .i64 k ∧ s = .slice la ln lc ∧ Lists W1 wr (.slice la ln lc) L ∧ L.map LsV.nds = (ps.map (normD d)).take k) (fun _ i _ => Ls.length - (intOf i).toNat)
    case atStart => exact ⟨0, [], none, 0, 0, Nat.zero_le _, rfl, rfl, Lists.start W1, rfl⟩
    case round =>
      obtain ⟨k, L, la, ln, lc, hk, rfl, rfl, hs, he⟩ := hrel
      have HS : Hid (Lists W1 wr (.slice la ln lc) L) := hs
      have HE : Hid (L.map LsV.nds = (ps.map (normD d)).take k) := he
      have hll : L.length ≤ k := by have := congrArg List.length he; rw [List.length_map, List.length_take] at this; omega
      have HBW : Hid (Below W.heap.size W wr) := HB1.out.trans (hs.bel.mono HB1.out.size)
      clear hs he
      by_cases hlt : k < Ls.length
      · obtain ⟨g, rfl, hc⟩ := HROW.out k hlt
        have hc := hc _ HS.out.bel
        have hm := getD_mem default hlt
        have hat := (HAT.out _ hm).below HBW.out
        have hmp : (Ls.getD k default).nds ∈ ps := by rw [← HND.out]; exact List.mem_map_of_mem hm
        obtain ⟨q1, q2, q3⟩ := HKD.out _ hmp
        have hql : (Ls.getD k default).nds.length = (Ls.getD k default).ys.length := by unfold LsV.nds; rw [List.length_map]
        have hq2 : (Ls.getD k default).ys.length ≤ 1000 := by omega
        have hcall := HIH.out (Ls.getD k default).a (Ls.getD k default).cap (Ls.getD k default).ys wr hat q1 hq2 q3
        obtain ⟨z1, z2⟩ := norm_ok d _ q1 q2 q3
        have z3 : (normD d (Ls.getD k default).nds).length ≤ 5000 := by omega
        have HZ : Hid (GoodN (normD d ((Ls.getD k default).ys.map (·.x))) ∧ (normD d ((Ls.getD k default).ys.map (·.x))).length ≤ 5000) := ⟨z1, z3⟩
        have HST : Hid ((ps.map (normD d)).take (k + 1) = L.map LsV.nds ++ [normD d ((Ls.getD k default).ys.map (·.x))]) := by
          show _ = _
          rw [HE.out, take_getD [] _ k (by rw [List.length_map, ← HLN.out]; exact hlt), map_getD (normD d) [] [] (by rw [← HLN.out]; exact hlt), ← HND.out, map_getD LsV.nds default [] hlt]
          rfl
        clear hat hm hmp q1 q2 q3 z1 z2 z3 hql
        generalize Ls.getD k default = y at *
        obtain ⟨yy, ya, yc⟩ := y
        simp only at hc hcall HZ HST hq2
        go_wp2_with fail
        refine Calls.mono hcall ?_
        intro e W2 hm
        obtain ⟨v2, rfl, hm2⟩ := hm.ret
        obtain ⟨a2, zs, c2, rfl, _, ho2, hz2, hb2⟩ := hm2.at HZ.out.1 (by have := HZ.out.2; omega)
        obtain ⟨na, nn, nc, Y, hr, hls⟩ := HS.out.push hb2 a2 zs c2 ho2 (by omega)
        have HR : Hid _ := hr
        have HLS : Hid (Lists W1 Y (.slice na nn nc) (L ++ [⟨zs, a2, c2⟩])) := hls
        have HN : Hid ((L ++ [(⟨zs, a2, c2⟩ : LsV)]).map LsV.nds = (ps.map (normD d)).take (k + 1)) := by
          show _ = _
          rw [HST.out, List.map_append]
          simp [LsV.nds, hz2]
        clear hm hm2 ho2 hz2 hb2 hr hls hcall HS HE
        go_wp2_with (at_builtin; refine append_runO (by rfl) _ _ (by rfl) (by rfl) _ _ _ _ (by rfl) (by rfl) HR.out ?_)
        go_roundw
        case rel => exact ⟨k + 1, _, na, nn, nc, by omega, by go_num, rfl, HLS.out, HN.out⟩
        case measure => simp [intOf]; omega
      · have hkk : k = Ls.length := by omega
        have hN : L.map LsV.nds = ps.map (normD d) := by rw [HE.out, hkk, HLN.out, ← List.length_map (f := normD d), List.take_length]
        have hgl : ∀ y ∈ L, GoodN y.nds := fun y hy => HTOT.out.2 _ (by rw [← hN]; exact List.mem_map_of_mem hy)
        have hLn : L.length = ps.length := by have := congrArg List.length hN; rw [List.length_map, List.length_map] at this; exact this
        have htl : tot L + L.length ≤ 5000 := by rw [tot_nds, hN, hLn]; exact HTOT.out.1
        obtain ⟨rfl, hlss⟩ := HS.out.lss hgl (fun y hy => by
          have h1 : y.ys.length ≤ tot L := by
            obtain ⟨A, B, rfl⟩ := List.append_of_mem hy
            rw [tot_append]; unfold tot; simp; omega
          omega) (by omega)
        have hput := put_any (ys.getD 0 default) la lc L wr (HTM.out.below HBW.out) hlss HGX.out hgl (by omega) HFX.out (by rw [hLn]; exact HKN.out)
        rw [hN, ← HRES.out] at hput
        have HPUT : Hid _ := hput
        have e0 := cell_up HBW.out (HCELL.out 0 (by omega))
        have e1 := cell_up HBW.out (HCELL.out 1 (by omega))
        have e2 := cell_up HBW.out (HCELL.out 2 (by omega))
        have e3 := cell_up HBW.out (HCELL.out 3 (by omega))
        have e4 := cell_up HBW.out (HCELL.out 4 (by omega))
        have e5 := cell_up HBW.out (HCELL.out 5 (by omega))
        simp only [Nat.add_zero] at e0
        clear hkk hN hgl hLn htl hlss hput HS HE HTM HGX HFX HKN HRES HCELL
        generalize ys.getD 0 default = y0 at *
        obtain ⟨⟨op, n, fr, to, ts, num⟩, ta, tc⟩ := y0
        simp at e0 e1 e2 e3 e4 e5
        go_wp2_with fail
        refine Calls.mono HPUT.out ?_
        intro e W9 hm
        obtain ⟨v, rfl, hm2⟩ := (hm.up HBW.out).ret
        have HM : Hid (Makes W _ (.returned v) W9) := hm2
        clear hm hm2
        go_wp2
        go_ret
        exact HM.out
end Go.Proofs.Ytpgdkgilmcipkaa
