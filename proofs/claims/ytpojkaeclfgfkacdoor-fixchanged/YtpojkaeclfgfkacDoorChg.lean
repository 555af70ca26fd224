/- FixChanged: bytes of which one is changed have another sum: the law's walk. Conditions: the library's own variables as they are laid. -/
import Derived.Test.YtpojkaeclfgfkacDoorSmall
import Derived.Deep.RegionHeld3
import Derived.Laws.IdiomStrings
import Derived.Deep.DeepMust
namespace Go.Proofs.YtpojkaeclfgfkacDoor
open Go.RowKit
set_option linter.unusedVariables false
set_option maxRecDepth 100000

theorem xor_cancel {a b c : Nat} (h : a ^^^ c = b ^^^ c) : a = b := by
  have := congrArg (· ^^^ c) h
  simpa [Nat.xor_assoc] using this
theorem top_xor (y : Nat) (h : y < 2147483648) : 2147483648 ≤ y ^^^ 3988292384 := by
  have h1 : (y ^^^ 3988292384).testBit 31 = true := by
    rw [Nat.testBit_xor, Nat.testBit_lt_two_pow (show y < 2 ^ 31 by omega)]; decide
  exact Nat.ge_two_pow_of_testBit h1
theorem crcBit_inj {x y : Nat} (hx : x < 4294967296) (hy : y < 4294967296) (h : crcBit x = crcBit y) : x = y := by
  unfold crcBit at h
  have tx := top_xor (x / 2) (by omega)
  have ty := top_xor (y / 2) (by omega)
  split at h <;> split at h
  · have := xor_cancel h; omega
  · omega
  · omega
  · omega
theorem crcBits_inj {x y : Nat} (n : Nat) (hx : x < 4294967296) (hy : y < 4294967296) (h : crcBits n x = crcBits n y) : x = y := by
  induction n with
  | zero => exact h
  | succ n ih => exact ih (crcBit_inj (crcBits_lt n hx) (crcBits_lt n hy) h)
/-- The sum goes on from x. -/
def crcFrom (x : Nat) (l : List UInt8) : Nat := l.foldl (fun x c => crcBits 8 (x ^^^ c.toNat)) x
theorem byte_step {x : Nat} (c : UInt8) (hx : x < 4294967296) : x ^^^ c.toNat < 4294967296 := Nat.xor_lt_two_pow (n := 32) hx (by have := c.toNat_lt; omega)
theorem crcFrom_inj (l : List UInt8) : ∀ {x y : Nat}, x < 4294967296 → y < 4294967296 → crcFrom x l = crcFrom y l → x = y := by
  induction l with
  | nil => intro x y _ _ h; exact h
  | cons c l ih =>
    intro x y hx hy h
    have h1 := ih (crcBits_lt 8 (byte_step c hx)) (crcBits_lt 8 (byte_step c hy)) h
    exact xor_cancel (crcBits_inj 8 (byte_step c hx) (byte_step c hy) h1)
theorem crc_changed (l : List UInt8) (k : Nat) (hk : k < l.length) (c : UInt8) (hc : l.getD k 0 ≠ c) : crcL (l.set k c) ≠ crcL l := by
  have e1 : l = l.take k ++ l.getD k 0 :: l.drop (k + 1) := by
    rw [List.getD_eq_getElem?_getD, List.getElem?_eq_getElem hk]
    simp
  have e2 : l.set k c = l.take k ++ c :: l.drop (k + 1) := by
    rw [List.set_eq_take_append_cons_drop, if_pos hk]
  intro h
  rw [e2] at h
  have e3 : crcL l = crcL (l.take k ++ l.getD k 0 :: l.drop (k + 1)) := congrArg crcL e1
  rw [e3] at h
  unfold crcL at h
  rw [List.foldl_append, List.foldl_append, List.foldl_cons, List.foldl_cons] at h
  have hx : (l.take k).foldl (fun x c => crcBits 8 (x ^^^ c.toNat)) 4294967295 < 4294967296 := crcL_lt (l.take k)
  generalize (l.take k).foldl (fun x c => crcBits 8 (x ^^^ c.toNat)) 4294967295 = x at *
  have h1 := crcFrom_inj (l.drop (k + 1)) (crcBits_lt 8 (byte_step c hx)) (crcBits_lt 8 (byte_step _ hx)) h
  have h2 := crcBits_inj 8 (byte_step c hx) (byte_step _ hx) h1
  rw [Nat.xor_comm x, Nat.xor_comm x] at h2
  exact hc (UInt8.toNat_inj.1 (xor_cancel h2).symm)

set_option maxHeartbeats 600000 in
theorem chg_out (s : ByteArray) (at' by' : Int) (w : World) (hm : MaxLenIs w) (ht : PowsAre w) (hs : s.size ≤ 140737488351232) (h : s.size = 0 ∨ 3000 < s.size ∨ (1 ≤ s.size ∧ s.size ≤ 3000 ∧ by' % 256 = 0)) :
    Calls Tryd.prog 3 #[.string s, .int .i64 at', .int .i64 by'] w fun e w' => e = .returned (.bool true) ∧ Below w.heap.size w w' := by
  have HA : Hid (Calls Tryd.prog 4 #[] w fun e w' => e = .returned (.bool true) ∧ Below w.heap.size w w') := alive_any w hm ht
  clear hm ht
  rcases h with h | h | ⟨h1, h2, h3⟩
  · have h' : ((s.size : Int) == 0) = true := by rw [beq_iff_eq]; omega
    go_enter Tryd.func3, Tryd.ntmps3
    go_wp2_with fail
    refine Calls.mono HA.out ?_
    rintro e w1 ⟨rfl, hbel⟩
    go_wp2
    go_ret
    exact ⟨rfl, hbel⟩
  · have h' : ((s.size : Int) == 0) = false := by rw [beq_eq_false_iff_ne]; omega
    go_enter Tryd.func3, Tryd.ntmps3
    go_wp2_with fail
    refine Calls.mono HA.out ?_
    rintro e w1 ⟨rfl, hbel⟩
    go_wp2
    go_ret
    exact ⟨rfl, hbel⟩
  · have h' : ((s.size : Int) == 0) = false := by rw [beq_eq_false_iff_ne]; omega
    have h'' : decide ((3000 : Int) < (s.size : Int)) = false := by simp; omega
    go_enter Tryd.func3, Tryd.ntmps3
    go_wp2_with fail
    refine Calls.mono HA.out ?_
    rintro e w1 ⟨rfl, hbel⟩
    go_wp2
    go_ret
    exact ⟨rfl, hbel⟩


theorem u8_xor_byte (c d : UInt8) : bits .xor .u8 (c.toNat : Int) (d.toNat : Int) = ((c ^^^ d).toNat : Int) := by
  rw [u8_xor_nat c.toNat d.toNat c.toNat_lt d.toNat_lt, UInt8.toNat_xor]
theorem getD_set (l : List UInt8) (k j : Nat) (v : UInt8) (hk : k < l.length) : (l.set k v).getD j 0 = if k = j then v else l.getD j 0 := by
  rw [List.getD_eq_getElem?_getD, List.getD_eq_getElem?_getD, List.getElem?_set]
  by_cases e : k = j
  · subst e; simp [hk]
  · simp [e]
/-- The bytes behind the change, in every world in which nothing of them has turned. -/
theorem back_changed (W1 W2 : World) (g n cap : Nat) (l : List UInt8) (hn : l.length = n) (hg : g < W1.heap.size) (hc : ∀ j, j < l.length → W1.cell? ⟨g, j, none⟩ = some (.int .u8 ((l.getD j 0).toNat : Int))) (hb : Below W1.heap.size W1 W2) :
    (convert 23 9 (.slice (some ⟨g, 0, none⟩) n cap)).run Tryd.prog W2 = .ok (.string ⟨l.toArray⟩) W2 := by
  subst hn
  refine run_convert_bytes_back W2 23 9 5 ⟨g, 0, none⟩ cap l Tryd.underlying23 Tryd.underlying5 Tryd.underlying9 ?_
  intro j hj
  have e : (⟨g, 0, none⟩ : Addr).add j = ⟨g, j, none⟩ := by unfold Addr.add; split <;> simp_all
  rw [e, hb.cell (p := ⟨g, j, none⟩) hg, hc j hj, List.getD_eq_getElem?_getD, List.getElem?_eq_getElem hj]; rfl

set_option maxHeartbeats 1000000 in
theorem chg_in (s : ByteArray) (at' : Int) (d : UInt8) (by' : Int) (K : Nat) (w : World) (hm : MaxLenIs w) (ht : PowsAre w) (h1 : 1 ≤ s.size) (h2 : s.size ≤ 3000) (hd : by' % 256 = (d.toNat : Int)) (hd0 : 1 ≤ d.toNat) (hK : K < s.size)
    (hkk : (at'.tmod s.size = K) ∨ (at'.tmod s.size < 0 ∧ at'.tmod s.size + s.size = K)) (a1 : -9223372036854775808 ≤ at') (a2 : at' ≤ 9223372036854775807) :
    Calls Tryd.prog 3 #[.string s, .int .i64 at', .int .i64 by'] w fun e w' => e = .returned (.bool true) ∧ Below w.heap.size w w' := by
  have h' : ((s.size : Int) == 0) = false := by rw [beq_eq_false_iff_ne]; omega
  have h'' : decide ((3000 : Int) < (s.size : Int)) = false := by simp; omega
  have h4 : ((d.toNat : Int) == 0) = false := by rw [beq_eq_false_iff_ne]; omega
  obtain ⟨W, cap, hcv, hbel, hWs, hcell, hfz⟩ := conv_bytes w s
  have hc := hcell K hK
  have hf := hfz K hK
  have hx := u8_xor_byte (s.data.toList.getD K 0) d
  have hsz : s.data.toList.length = s.size := by simp
  have hne := crc_changed s.data.toList K (by omega) (s.data.toList.getD K 0 ^^^ d) (by
    intro e
    have := congrArg (fun c => (s.data.toList.getD K 0 ^^^ c)) e
    have e2 : (s.data.toList.getD K 0).toNat = (s.data.toList.getD K 0 ^^^ d).toNat := congrArg UInt8.toNat e
    rw [UInt8.toNat_xor] at e2
    have e3 : 0 ^^^ (s.data.toList.getD K 0).toNat = d.toNat ^^^ (s.data.toList.getD K 0).toNat := by rw [Nat.zero_xor, Nat.xor_comm d.toNat]; exact e2
    have := xor_cancel e3; omega)
  have HC : Hid (∀ W2, Below (W.setCell ⟨w.heap.size, K, none⟩ (.int .u8 ((s.data.toList.getD K 0 ^^^ d).toNat : Int))).heap.size (W.setCell ⟨w.heap.size, K, none⟩ (.int .u8 ((s.data.toList.getD K 0 ^^^ d).toNat : Int))) W2 →
      (convert 23 9 (.slice (some ⟨w.heap.size, 0, none⟩) s.size cap)).run Tryd.prog W2 = .ok (.string ⟨(s.data.toList.set K (s.data.toList.getD K 0 ^^^ d)).toArray⟩) W2) := by
    intro W2 hb
    refine back_changed _ W2 w.heap.size s.size cap _ (by simp) (by simp [hWs]) ?_ hb
    intro j hj
    simp only [List.length_set] at hj
    by_cases e : K = j
    · subst e
      rw [World.cell?_setCell_same _ _ _ hc, getD_set _ _ _ _ hj, if_pos rfl]
    · have hne' : (⟨w.heap.size, K, none⟩ : Addr) ≠ ⟨w.heap.size, j, none⟩ := fun h => e (by injection h)
      rw [World.cell?_setCell_other _ _ _ _ hne', hcell j (by omega), getD_set _ _ _ _ (by omega), if_neg e]
  have HS : Hid (∀ w, Calls Tryd.prog 5 #[.string s] w fun e w' => e = .returned (.int .i64 (4294967295 - (crcL s.data.toList : Int))) ∧ w' = w) := fun w => sum_any s w (by unfold maxLen; omega)
  have HS2 : Hid (∀ w, Calls Tryd.prog 5 #[.string ⟨(s.data.toList.set K (s.data.toList.getD K 0 ^^^ d)).toArray⟩] w fun e w' => e = .returned (.int .i64 (4294967295 - (crcL (s.data.toList.set K (s.data.toList.getD K 0 ^^^ d)) : Int))) ∧ w' = w) := fun w => by
    have := sum_any ⟨(s.data.toList.set K (s.data.toList.getD K 0 ^^^ d)).toArray⟩ w (by show (List.toArray _).size ≤ maxLen; rw [List.size_toArray, List.length_set, hsz]; unfold maxLen; omega)
    simpa only [List.toList_toArray] using this
  have hX := crcL_lt s.data.toList
  have hB1 : Below w.heap.size w (W.setCell ⟨w.heap.size, K, none⟩ (.int .u8 ((s.data.toList.getD K 0 ^^^ d).toNat : Int))) := hbel.setCell (Nat.le_refl _) _
  have HA : Hid (Calls Tryd.prog 4 #[] (W.setCell ⟨w.heap.size, K, none⟩ (.int .u8 ((s.data.toList.getD K 0 ^^^ d).toNat : Int))).drew fun e w' => e = .returned (.bool true) ∧ Below (W.setCell ⟨w.heap.size, K, none⟩ (.int .u8 ((s.data.toList.getD K 0 ^^^ d).toNat : Int))).heap.size (W.setCell ⟨w.heap.size, K, none⟩ (.int .u8 ((s.data.toList.getD K 0 ^^^ d).toNat : Int))) w' ∧ Below w.heap.size w w') := by
    refine Calls.mono (alive_any _ (hm.stays hB1.drew (Nat.le_refl _)) (ht.stays hB1.drew)) fun e w' ⟨e1, e2⟩ => ⟨e1, ?_, ?_⟩
    · exact ((Below.refl _ _).drew).trans e2
    · exact hB1.trans ((Below.refl _ _).drew.trans (e2.mono hB1.size))
  have hY : ((4294967295 - (crcL s.data.toList : Int)) != 4294967295 - (crcL (s.data.toList.set K (s.data.toList.getD K 0 ^^^ d)) : Int)) = true := by rw [bne_iff_ne]; omega
  have hX0 : 0 ≤ 4294967295 - (crcL s.data.toList : Int) := by omega
  have hX1 : 4294967295 - (crcL s.data.toList : Int) < 4294967296 := by omega
  clear hX hne
  generalize (4294967295 - (crcL s.data.toList : Int)) = X at *
  generalize (4294967295 - (crcL (s.data.toList.set K (s.data.toList.getD K 0 ^^^ d)) : Int)) = Y at *
  have hX2 : decide (0 ≤ X) = true := by simp; omega
  have hX3 : decide (X < 4294967296) = true := by simp; omega
  generalize s.data.toList.set K (s.data.toList.getD K 0 ^^^ d) = L at *
  generalize s.data.toList.getD K 0 = c at *
  generalize c ^^^ d = c2 at *
  clear hm ht hcell hfz hsz hbel hWs hB1
  rcases hkk with hkk | ⟨hk0, hkk⟩
  all_goals
    go_enter Tryd.func3, Tryd.ntmps3
    go_wp2_with fail
    go_region_with (first
      | (go_at_call 4; refine Calls.mono HA.out ?_; rintro e W2 ⟨rfl, hb, hb2⟩; have hcv2 := HC.out W2 hb; have HB2 := (show Hid (Below w.heap.size w W2) from hb2); clear hb hb2)
      | (go_at_call_of 5 s; refine Calls.mono (HS.out _) ?_; rintro e w' ⟨rfl, hw⟩; have hw' := hw.symm; subst hw'; clear hw)
      | (go_at_call 5; refine Calls.mono (HS2.out _) ?_; rintro e w' ⟨rfl, hw⟩; have hw' := hw.symm; subst hw'; clear hw))
    all_goals
      go_wp2
      go_ret
      exact ⟨rfl, HB2.out⟩

end Go.Proofs.YtpojkaeclfgfkacDoor
