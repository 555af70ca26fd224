/- FixKept: what is kept between two is between them, the greatest is no less than each: the law's walk. Conditions: the library's own variables as they are laid. -/
import Derived.Test.YtpojkaeclfgfkaaDoorPicks
import Derived.Deep.RegionHeld3
import Derived.Deep.DeepMust
namespace Go.Proofs.YtpojkaeclfgfkaaDoor
open Go.RowKit
set_option linter.unusedVariables false
set_option maxRecDepth 100000

theorem IsInts.nocap {w : World} {a : Option Addr} {len cap : Nat} {zs : List Int} (h : IsInts w a len cap zs) : a = none → cap = 0 := by
  rcases h with ⟨rfl, rfl, rfl, rfl⟩ | ⟨x, rfl, _⟩
  · exact fun _ => rfl
  · intro e; cases e
theorem foldl_max_ge (l : List Int) (m : Int) : m ≤ l.foldl max m ∧ ∀ z ∈ l, z ≤ l.foldl max m := by
  induction l generalizing m with
  | nil => simp
  | cons x l ih =>
    have := ih (max m x)
    refine ⟨by simp only [List.foldl_cons]; omega, fun z hz => ?_⟩
    simp only [List.mem_cons] at hz
    simp only [List.foldl_cons]
    rcases hz with rfl | hz
    · omega
    · exact this.2 z hz
theorem foldl_min_le (l : List Int) (m : Int) : l.foldl min m ≤ m ∧ ∀ z ∈ l, l.foldl min m ≤ z := by
  induction l generalizing m with
  | nil => simp
  | cons x l ih =>
    have := ih (min m x)
    refine ⟨by simp only [List.foldl_cons]; omega, fun z hz => ?_⟩
    simp only [List.mem_cons] at hz
    simp only [List.foldl_cons]
    rcases hz with rfl | hz
    · omega
    · exact this.2 z hz
theorem getD_mem {l : List Int} {k : Nat} (h : k < l.length) : l.getD k 0 ∈ l := by
  rw [List.getD_eq_getElem?_getD, List.getElem?_eq_getElem h]; exact List.getElem_mem h
theorem maxOf_ge {l : List Int} {k : Nat} (h : k < l.length) : l.getD k 0 ≤ Lib.maxOf l := (foldl_max_ge l _).2 _ (getD_mem h)
theorem minOf_le {l : List Int} {k : Nat} (h : k < l.length) : Lib.minOf l ≤ l.getD k 0 := (foldl_min_le l _).2 _ (getD_mem h)
theorem maxOf_head (x : Int) (l : List Int) : x ≤ Lib.maxOf (x :: l) := (foldl_max_ge (x :: l) _).2 x (by simp)
theorem maxOf_two (x m : Int) (h : x ≤ m) : Lib.maxOf [x, m] = m := by simp [Lib.maxOf]; omega
theorem maxOf_one (x : Int) : Lib.maxOf [x] = x := by simp [Lib.maxOf]
theorem max_one (W : World) (z : Int) (g : Nat) (hg : g = W.heap.size) :
    Calls Tryd.prog 20 #[.slice (some ⟨g, 0, none⟩) 1 1] (W.alloc (.cells #[.int .i64 z] 3)) fun e w' => e = .returned (.int .i64 z) ∧ w' = W.alloc (.cells #[.int .i64 z] 3) := by
  subst hg
  have := max_any (some ⟨W.heap.size, 0, none⟩) [z] 1 (W.alloc (.cells #[.int .i64 z] 3)) (fun i hi => ⟨W.heap.size, 0, rfl, by match i, hi with | 0, _ => simp⟩) (by simp)
  rw [maxOf_one] at this; exact this
theorem max_two (W : World) (x m : Int) (h : x ≤ m) (g : Nat) (hg : g = W.heap.size) :
    Calls Tryd.prog 20 #[.slice (some ⟨g, 0, none⟩) 2 2] (W.alloc (.cells #[.int .i64 x, .int .i64 m] 3)) fun e w' => e = .returned (.int .i64 m) ∧ w' = W.alloc (.cells #[.int .i64 x, .int .i64 m] 3) := by
  subst hg
  have := max_any (some ⟨W.heap.size, 0, none⟩) [x, m] 2 (W.alloc (.cells #[.int .i64 x, .int .i64 m] 3)) (fun i hi => ⟨W.heap.size, 0, rfl, by match i, hi with | 0, _ => simp | 1, _ => simp⟩) (by simp)
  rw [maxOf_two x m h] at this; exact this
theorem max_cell (W : World) (g : Nat) (z : Int) (h : W.cell? ⟨g, 0, none⟩ = some (.int .i64 z)) :
    Calls Tryd.prog 20 #[.slice (some ⟨g, 0, none⟩) 1 1] W fun e w' => e = .returned (.int .i64 z) ∧ w' = W := by
  have := max_any (some ⟨g, 0, none⟩) [z] 1 W (fun i hi => ⟨g, 0, rfl, by match i, hi with | 0, _ => simpa using h⟩) (by simp)
  rw [maxOf_one] at this; exact this
theorem IntRow.drew {w : World} {a : Option Addr} {zs : List Int} (h : IntRow w a zs) : IntRow w.drew a zs := fun i hi => h i hi
theorem clamp_is (x lo hi c : Int) (h : keepF x lo hi = c) (w : World) : Calls Tryd.prog 24 #[.int .i64 x, .int .i64 lo, .int .i64 hi] w fun e w' => e = .returned (.int .i64 c) ∧ w' = w := by
  subst h; exact clamp_any x lo hi w

set_option maxHeartbeats 600000 in
theorem kept_many (x lo hi : Int) (a : Option Addr) (len cap : Nat) (w : World) (hm : MaxLenIs w) (ht : PowsAre w) (h : 200 < len) (hb : len ≤ 9223372036854775807) :
    Calls Tryd.prog 8 #[.int .i64 x, .int .i64 lo, .int .i64 hi, .slice a len cap] w fun e w' => e = .returned (.bool true) ∧ Below w.heap.size w w' := by
  have HA : Hid (Calls Tryd.prog 9 #[] w fun e w' => e = .returned (.bool true) ∧ Below w.heap.size w w') := alive_any w hm ht
  clear hm ht
  go_enter Tryd.func8, Tryd.ntmps8
  go_wp2_with fail
  refine Calls.mono HA.out ?_
  rintro e w1 ⟨rfl, hbel⟩
  go_wp2
  go_ret
  exact ⟨rfl, hbel⟩

set_option maxHeartbeats 1000000 in
theorem kept_none (x lo hi c : Int) (a : Option Addr) (zs : List Int) (cap : Nat) (w : World) (hm : MaxLenIs w) (ht : PowsAre w) (hr : IntRow w a zs) (hl : zs.length ≤ 200) (hcap : a = none → cap = 0) (hk : keepF x lo hi = c)
    (h : hi < lo) :
    Calls Tryd.prog 8 #[.int .i64 x, .int .i64 lo, .int .i64 hi, .slice a zs.length cap] w fun e w' => e = .returned (.bool true) ∧ Below w.heap.size w w' := by
  have HE : Hid (MaxLenIs w ∧ PowsAre w ∧ IntRow w a zs ∧ (a = none → cap = 0)) := ⟨hm, ht, hr, hcap⟩
  have HK : Hid (∀ w, Calls Tryd.prog 24 #[.int .i64 x, .int .i64 lo, .int .i64 hi] w fun e w' => e = .returned (.int .i64 c) ∧ w' = w) := fun w => clamp_is x lo hi c hk w
  have HK2 : Hid (lo ≤ hi → ∀ w, Calls Tryd.prog 24 #[.int .i64 c, .int .i64 lo, .int .i64 hi] w fun e w' => e = .returned (.int .i64 c) ∧ w' = w) := by
    intro hle w
    refine clamp_is c lo hi c ?_ w
    omega
  clear hm ht hr hcap hk
  go_enter Tryd.func8, Tryd.ntmps8
  go_wp2_with fail
  refine Calls.mono (HK.out _) ?_
  rintro e w1 ⟨rfl, hw⟩
  subst hw
  go_wp2_with fail
  go_loopw [10] (fun i wr => ∃ k : Nat, k ≤ zs.length ∧ i = .int .i64 k ∧ Below w1.heap.size w1 wr) (fun i _ => zs.length - (intOf i).toNat)
  case atStart => exact ⟨0, Nat.zero_le _, rfl, Below.refl _ _⟩
  case round =>
    obtain ⟨k, hk, rfl, hbel⟩ := hrel
    have HB : Hid (Below w1.heap.size w1 wr) := hbel
    have HR : Hid (IntRow wr a zs) := HE.out.2.2.1.stays hbel (Nat.le_refl _)
    clear hbel
    by_cases hlt : k < zs.length
    · obtain ⟨b, off, rfl, hc⟩ := HR.out k hlt
      have f1 := maxOf_ge hlt
      have f2 := minOf_le hlt
      generalize zs.getD k 0 = z at *
      have hd1 : decide (Lib.maxOf zs < z) = false := by simp; omega
      have hd2 : decide (z < Lib.minOf zs) = false := by simp; omega
      go_wp2
      have hne := World.new_ne wr ⟨b, off + k, none⟩ hc
      go_region_held3 (fun w' => w'.cell? ⟨b, off + k, none⟩ = some (.int .i64 z)) (go_keep) (first
        | (go_at_call_of 20 (Value.slice (some ⟨b, off, none⟩) zs.length cap); refine (max_any _ zs cap _ ?_ (by omega)).mono ?_; (first | exact HR.out.drew | exact HR.out); rintro e w' ⟨rfl, hw⟩; have hw' := hw.symm; subst hw'; clear hw)
        | (go_at_call_of 22 (Value.slice (some ⟨b, off, none⟩) zs.length cap); refine (min_any _ zs cap _ ?_ (by omega)).mono ?_; (first | exact HR.out.drew | exact HR.out); rintro e w' ⟨rfl, hw⟩; have hw' := hw.symm; subst hw'; clear hw)
        | (go_at_call 20; refine (max_cell _ _ z ?_).mono ?_; simp; rintro e w' ⟨rfl, hw⟩; have hw' := hw.symm; subst hw'; clear hw))
      clear hne hd1 hd2 f1 f2 hc
      go_wp2
      go_roundw
      case rel => exact ⟨k + 1, by omega, by go_num, (HB.out.alloc HB.out.size _).drew⟩
      case measure => simp [intOf]; omega
    · have HA : Hid (Calls Tryd.prog 9 #[] wr fun e w' => e = .returned (.bool true) ∧ Below wr.heap.size wr w') := alive_any wr (HE.out.1.stays HB.out (Nat.le_refl _)) (HE.out.2.1.stays HB.out)
      go_wp2_with fail
      refine Calls.mono HA.out ?_
      rintro e w2 ⟨rfl, hb2⟩
      have B2 : Below w1.heap.size w1 w2 := HB.out.trans (hb2.mono HB.out.size)
      have R2 : IntRow (w2.alloc (.cells #[.int .i64 x] 3)) a zs := HE.out.2.2.1.stays (B2.alloc B2.size _) (Nat.le_refl _)
      obtain ⟨v3, w3, hr3, ho3, hb3⟩ := append_ints (w2.alloc (.cells #[.int .i64 x] 3)) w2.heap.size (.slice (some ⟨w2.heap.size, 0, none⟩) 1 1) [x] (own_one w2 _ x (Nat.le_refl _)) a zs cap HE.out.2.2.2 R2 (by simp; omega) (by simp)
      obtain ⟨g3, cap3, rfl, _, _, R3⟩ := own_slice ho3 (by simp)
      have B3 : Below w1.heap.size w1 w3 := (B2.alloc B2.size _).trans (hb3.mono B2.size)
      have R3' : IntRow (w3.alloc (.cells #[.int .i64 x] 3)) a zs := HE.out.2.2.1.stays (B3.alloc B3.size _) (Nat.le_refl _)
      obtain ⟨v4, w4, hr4, ho4, hb4⟩ := append_ints (w3.alloc (.cells #[.int .i64 x] 3)) w3.heap.size (.slice (some ⟨w3.heap.size, 0, none⟩) 1 1) [x] (own_one w3 _ x (Nat.le_refl _)) a zs cap HE.out.2.2.2 R3' (by simp; omega) (by simp)
      obtain ⟨g4, cap4, rfl, _, _, R4⟩ := own_slice ho4 (by simp)
      have B4 : Below w1.heap.size w1 w4 := (B3.alloc B3.size _).trans (hb4.mono B3.size)
      have HM3 : Hid (Calls Tryd.prog 20 #[.slice (some ⟨g3, 0, none⟩) ([x] ++ zs).length cap3] w3 fun e w' => e = .returned (.int .i64 (Lib.maxOf ([x] ++ zs))) ∧ w' = w3) := max_any _ _ cap3 w3 R3 (by simp; omega)
      have HM4 : Hid (Calls Tryd.prog 20 #[.slice (some ⟨g4, 0, none⟩) ([x] ++ zs).length cap4] w4 fun e w' => e = .returned (.int .i64 (Lib.maxOf ([x] ++ zs))) ∧ w' = w4) := max_any _ _ cap4 w4 R4 (by simp; omega)
      have HX : Hid (x ≤ Lib.maxOf ([x] ++ zs)) := maxOf_head x zs
      have HB4 : Hid (Below w1.heap.size w1 w4) := B4
      have HR3 : Hid ((Builtin.append_ #[22, 22] 22 #[.slice (some ⟨w2.heap.size, 0, none⟩) 1 1, .slice a zs.length cap]).run Tryd.prog (w2.alloc (.cells #[.int .i64 x] 3)) = .ok (.slice (some ⟨g3, 0, none⟩) ([x] ++ zs).length cap3) w3) := hr3
      have HR4 : Hid ((Builtin.append_ #[22, 22] 22 #[.slice (some ⟨w3.heap.size, 0, none⟩) 1 1, .slice a zs.length cap]).run Tryd.prog (w3.alloc (.cells #[.int .i64 x] 3)) = .ok (.slice (some ⟨g4, 0, none⟩) ([x] ++ zs).length cap4) w4) := hr4
      clear hr3 hr4 B2 R2 ho3 hb3 R3 B3 R3' ho4 hb4 R4 B4 hb2 HA HR
      simp only [List.cons_append, List.nil_append, List.length_cons] at *
      generalize hM : Lib.maxOf (x :: zs) = M at *
      clear hM
      go_wp2_with (at_builtin; go_must (refine append_run (by rfl) _ _ (by rfl) (by rfl) _ _ _ _ (by rfl) (by rfl) HR3.out ?_))
      refine Calls.mono HM3.out ?_
      rintro e w' ⟨rfl, hw⟩
      subst hw
      go_wp2_with (at_builtin; go_must (refine append_run (by rfl) _ _ (by rfl) (by rfl) _ _ _ _ (by rfl) (by rfl) HR4.out ?_))
      refine Calls.mono HM4.out ?_
      rintro e w' ⟨rfl, hw⟩
      subst hw
      go_wp2_with fail
      refine Calls.mono (max_two _ x M HX.out _ rfl) ?_
      rintro e w' ⟨rfl, hw⟩
      subst hw
      go_wp2
      go_ret
      exact ⟨rfl, HB4.out.alloc HB4.out.size _⟩
set_option maxHeartbeats 1000000 in
theorem kept_hi (x lo hi c : Int) (a : Option Addr) (zs : List Int) (cap : Nat) (w : World) (hm : MaxLenIs w) (ht : PowsAre w) (hr : IntRow w a zs) (hl : zs.length ≤ 200) (hcap : a = none → cap = 0) (hk : keepF x lo hi = c)
    (h1 : lo ≤ hi) (h2 : hi < x) (h3 : c = hi) :
    Calls Tryd.prog 8 #[.int .i64 x, .int .i64 lo, .int .i64 hi, .slice a zs.length cap] w fun e w' => e = .returned (.bool true) ∧ Below w.heap.size w w' := by
  have HE : Hid (MaxLenIs w ∧ PowsAre w ∧ IntRow w a zs ∧ (a = none → cap = 0)) := ⟨hm, ht, hr, hcap⟩
  have HK : Hid (∀ w, Calls Tryd.prog 24 #[.int .i64 x, .int .i64 lo, .int .i64 hi] w fun e w' => e = .returned (.int .i64 c) ∧ w' = w) := fun w => clamp_is x lo hi c hk w
  have HK2 : Hid (lo ≤ hi → ∀ w, Calls Tryd.prog 24 #[.int .i64 c, .int .i64 lo, .int .i64 hi] w fun e w' => e = .returned (.int .i64 c) ∧ w' = w) := by
    intro hle w
    refine clamp_is c lo hi c ?_ w
    subst h3; unfold keepF
    rw [if_neg (by omega), if_neg (by omega)]
  clear hm ht hr hcap hk
  go_enter Tryd.func8, Tryd.ntmps8
  go_wp2_with fail
  refine Calls.mono (HK.out _) ?_
  rintro e w1 ⟨rfl, hw⟩
  subst hw
  subst h3
  go_wp2_with fail
  refine Calls.mono (HK2.out (by omega) _) ?_
  rintro e w2 ⟨rfl, hw⟩
  have hw' := hw.symm
  subst hw'
  clear hw
  go_wp2_with fail
  go_loopw [10] (fun i wr => ∃ k : Nat, k ≤ zs.length ∧ i = .int .i64 k ∧ Below w1.heap.size w1 wr) (fun i _ => zs.length - (intOf i).toNat)
  case atStart => exact ⟨0, Nat.zero_le _, rfl, Below.refl _ _⟩
  case round =>
    obtain ⟨k, hk, rfl, hbel⟩ := hrel
    have HB : Hid (Below w1.heap.size w1 wr) := hbel
    have HR : Hid (IntRow wr a zs) := HE.out.2.2.1.stays hbel (Nat.le_refl _)
    clear hbel
    by_cases hlt : k < zs.length
    · obtain ⟨b, off, rfl, hc⟩ := HR.out k hlt
      have f1 := maxOf_ge hlt
      have f2 := minOf_le hlt
      generalize zs.getD k 0 = z at *
      have hd1 : decide (Lib.maxOf zs < z) = false := by simp; omega
      have hd2 : decide (z < Lib.minOf zs) = false := by simp; omega
      go_wp2
      have hne := World.new_ne wr ⟨b, off + k, none⟩ hc
      go_region_held3 (fun w' => w'.cell? ⟨b, off + k, none⟩ = some (.int .i64 z)) (go_keep) (first
        | (go_at_call_of 20 (Value.slice (some ⟨b, off, none⟩) zs.length cap); refine (max_any _ zs cap _ ?_ (by omega)).mono ?_; (first | exact HR.out.drew | exact HR.out); rintro e w' ⟨rfl, hw⟩; have hw' := hw.symm; subst hw'; clear hw)
        | (go_at_call_of 22 (Value.slice (some ⟨b, off, none⟩) zs.length cap); refine (min_any _ zs cap _ ?_ (by omega)).mono ?_; (first | exact HR.out.drew | exact HR.out); rintro e w' ⟨rfl, hw⟩; have hw' := hw.symm; subst hw'; clear hw)
        | (go_at_call 20; refine (max_cell _ _ z ?_).mono ?_; simp; rintro e w' ⟨rfl, hw⟩; have hw' := hw.symm; subst hw'; clear hw))
      clear hne hd1 hd2 f1 f2 hc
      go_wp2
      go_roundw
      case rel => exact ⟨k + 1, by omega, by go_num, (HB.out.alloc HB.out.size _).drew⟩
      case measure => simp [intOf]; omega
    · have HA : Hid (Calls Tryd.prog 9 #[] wr fun e w' => e = .returned (.bool true) ∧ Below wr.heap.size wr w') := alive_any wr (HE.out.1.stays HB.out (Nat.le_refl _)) (HE.out.2.1.stays HB.out)
      go_wp2_with fail
      refine Calls.mono HA.out ?_
      rintro e w2 ⟨rfl, hb2⟩
      have B2 : Below w1.heap.size w1 w2 := HB.out.trans (hb2.mono HB.out.size)
      have R2 : IntRow (w2.alloc (.cells #[.int .i64 x] 3)) a zs := HE.out.2.2.1.stays (B2.alloc B2.size _) (Nat.le_refl _)
      obtain ⟨v3, w3, hr3, ho3, hb3⟩ := append_ints (w2.alloc (.cells #[.int .i64 x] 3)) w2.heap.size (.slice (some ⟨w2.heap.size, 0, none⟩) 1 1) [x] (own_one w2 _ x (Nat.le_refl _)) a zs cap HE.out.2.2.2 R2 (by simp; omega) (by simp)
      obtain ⟨g3, cap3, rfl, _, _, R3⟩ := own_slice ho3 (by simp)
      have B3 : Below w1.heap.size w1 w3 := (B2.alloc B2.size _).trans (hb3.mono B2.size)
      have R3' : IntRow (w3.alloc (.cells #[.int .i64 x] 3)) a zs := HE.out.2.2.1.stays (B3.alloc B3.size _) (Nat.le_refl _)
      obtain ⟨v4, w4, hr4, ho4, hb4⟩ := append_ints (w3.alloc (.cells #[.int .i64 x] 3)) w3.heap.size (.slice (some ⟨w3.heap.size, 0, none⟩) 1 1) [x] (own_one w3 _ x (Nat.le_refl _)) a zs cap HE.out.2.2.2 R3' (by simp; omega) (by simp)
      obtain ⟨g4, cap4, rfl, _, _, R4⟩ := own_slice ho4 (by simp)
      have B4 : Below w1.heap.size w1 w4 := (B3.alloc B3.size _).trans (hb4.mono B3.size)
      have HM3 : Hid (Calls Tryd.prog 20 #[.slice (some ⟨g3, 0, none⟩) ([x] ++ zs).length cap3] w3 fun e w' => e = .returned (.int .i64 (Lib.maxOf ([x] ++ zs))) ∧ w' = w3) := max_any _ _ cap3 w3 R3 (by simp; omega)
      have HM4 : Hid (Calls Tryd.prog 20 #[.slice (some ⟨g4, 0, none⟩) ([x] ++ zs).length cap4] w4 fun e w' => e = .returned (.int .i64 (Lib.maxOf ([x] ++ zs))) ∧ w' = w4) := max_any _ _ cap4 w4 R4 (by simp; omega)
      have HX : Hid (x ≤ Lib.maxOf ([x] ++ zs)) := maxOf_head x zs
      have HB4 : Hid (Below w1.heap.size w1 w4) := B4
      have HR3 : Hid ((Builtin.append_ #[22, 22] 22 #[.slice (some ⟨w2.heap.size, 0, none⟩) 1 1, .slice a zs.length cap]).run Tryd.prog (w2.alloc (.cells #[.int .i64 x] 3)) = .ok (.slice (some ⟨g3, 0, none⟩) ([x] ++ zs).length cap3) w3) := hr3
      have HR4 : Hid ((Builtin.append_ #[22, 22] 22 #[.slice (some ⟨w3.heap.size, 0, none⟩) 1 1, .slice a zs.length cap]).run Tryd.prog (w3.alloc (.cells #[.int .i64 x] 3)) = .ok (.slice (some ⟨g4, 0, none⟩) ([x] ++ zs).length cap4) w4) := hr4
      clear hr3 hr4 B2 R2 ho3 hb3 R3 B3 R3' ho4 hb4 R4 B4 hb2 HA HR
      simp only [List.cons_append, List.nil_append, List.length_cons] at *
      generalize hM : Lib.maxOf (x :: zs) = M at *
      clear hM
      go_wp2_with (at_builtin; go_must (refine append_run (by rfl) _ _ (by rfl) (by rfl) _ _ _ _ (by rfl) (by rfl) HR3.out ?_))
      refine Calls.mono HM3.out ?_
      rintro e w' ⟨rfl, hw⟩
      subst hw
      go_wp2_with (at_builtin; go_must (refine append_run (by rfl) _ _ (by rfl) (by rfl) _ _ _ _ (by rfl) (by rfl) HR4.out ?_))
      refine Calls.mono HM4.out ?_
      rintro e w' ⟨rfl, hw⟩
      subst hw
      go_wp2_with fail
      refine Calls.mono (max_two _ x M HX.out _ rfl) ?_
      rintro e w' ⟨rfl, hw⟩
      subst hw
      go_wp2
      go_ret
      exact ⟨rfl, HB4.out.alloc HB4.out.size _⟩
set_option maxHeartbeats 1000000 in
theorem kept_lo (x lo hi c : Int) (a : Option Addr) (zs : List Int) (cap : Nat) (w : World) (hm : MaxLenIs w) (ht : PowsAre w) (hr : IntRow w a zs) (hl : zs.length ≤ 200) (hcap : a = none → cap = 0) (hk : keepF x lo hi = c)
    (h1 : lo ≤ hi) (h2 : x < lo) (h3 : c = lo) :
    Calls Tryd.prog 8 #[.int .i64 x, .int .i64 lo, .int .i64 hi, .slice a zs.length cap] w fun e w' => e = .returned (.bool true) ∧ Below w.heap.size w w' := by
  have HE : Hid (MaxLenIs w ∧ PowsAre w ∧ IntRow w a zs ∧ (a = none → cap = 0)) := ⟨hm, ht, hr, hcap⟩
  have HK : Hid (∀ w, Calls Tryd.prog 24 #[.int .i64 x, .int .i64 lo, .int .i64 hi] w fun e w' => e = .returned (.int .i64 c) ∧ w' = w) := fun w => clamp_is x lo hi c hk w
  have HK2 : Hid (lo ≤ hi → ∀ w, Calls Tryd.prog 24 #[.int .i64 c, .int .i64 lo, .int .i64 hi] w fun e w' => e = .returned (.int .i64 c) ∧ w' = w) := by
    intro hle w
    refine clamp_is c lo hi c ?_ w
    subst h3; unfold keepF
    rw [if_neg (by omega), if_neg (by omega)]
  clear hm ht hr hcap hk
  go_enter Tryd.func8, Tryd.ntmps8
  go_wp2_with fail
  refine Calls.mono (HK.out _) ?_
  rintro e w1 ⟨rfl, hw⟩
  subst hw
  subst h3
  go_wp2_with fail
  refine Calls.mono (HK2.out (by omega) _) ?_
  rintro e w2 ⟨rfl, hw⟩
  have hw' := hw.symm
  subst hw'
  clear hw
  go_wp2_with fail
  go_loopw [10] (fun i wr => ∃ k : Nat, k ≤ zs.length ∧ i = .int .i64 k ∧ Below w1.heap.size w1 wr) (fun i _ => zs.length - (intOf i).toNat)
  case atStart => exact ⟨0, Nat.zero_le _, rfl, Below.refl _ _⟩
  case round =>
    obtain ⟨k, hk, rfl, hbel⟩ := hrel
    have HB : Hid (Below w1.heap.size w1 wr) := hbel
    have HR : Hid (IntRow wr a zs) := HE.out.2.2.1.stays hbel (Nat.le_refl _)
    clear hbel
    by_cases hlt : k < zs.length
    · obtain ⟨b, off, rfl, hc⟩ := HR.out k hlt
      have f1 := maxOf_ge hlt
      have f2 := minOf_le hlt
      generalize zs.getD k 0 = z at *
      have hd1 : decide (Lib.maxOf zs < z) = false := by simp; omega
      have hd2 : decide (z < Lib.minOf zs) = false := by simp; omega
      go_wp2
      have hne := World.new_ne wr ⟨b, off + k, none⟩ hc
      go_region_held3 (fun w' => w'.cell? ⟨b, off + k, none⟩ = some (.int .i64 z)) (go_keep) (first
        | (go_at_call_of 20 (Value.slice (some ⟨b, off, none⟩) zs.length cap); refine (max_any _ zs cap _ ?_ (by omega)).mono ?_; (first | exact HR.out.drew | exact HR.out); rintro e w' ⟨rfl, hw⟩; have hw' := hw.symm; subst hw'; clear hw)
        | (go_at_call_of 22 (Value.slice (some ⟨b, off, none⟩) zs.length cap); refine (min_any _ zs cap _ ?_ (by omega)).mono ?_; (first | exact HR.out.drew | exact HR.out); rintro e w' ⟨rfl, hw⟩; have hw' := hw.symm; subst hw'; clear hw)
        | (go_at_call 20; refine (max_cell _ _ z ?_).mono ?_; simp; rintro e w' ⟨rfl, hw⟩; have hw' := hw.symm; subst hw'; clear hw))
      clear hne hd1 hd2 f1 f2 hc
      go_wp2
      go_roundw
      case rel => exact ⟨k + 1, by omega, by go_num, (HB.out.alloc HB.out.size _).drew⟩
      case measure => simp [intOf]; omega
    · have HA : Hid (Calls Tryd.prog 9 #[] wr fun e w' => e = .returned (.bool true) ∧ Below wr.heap.size wr w') := alive_any wr (HE.out.1.stays HB.out (Nat.le_refl _)) (HE.out.2.1.stays HB.out)
      go_wp2_with fail
      refine Calls.mono HA.out ?_
      rintro e w2 ⟨rfl, hb2⟩
      have B2 : Below w1.heap.size w1 w2 := HB.out.trans (hb2.mono HB.out.size)
      have R2 : IntRow (w2.alloc (.cells #[.int .i64 x] 3)) a zs := HE.out.2.2.1.stays (B2.alloc B2.size _) (Nat.le_refl _)
      obtain ⟨v3, w3, hr3, ho3, hb3⟩ := append_ints (w2.alloc (.cells #[.int .i64 x] 3)) w2.heap.size (.slice (some ⟨w2.heap.size, 0, none⟩) 1 1) [x] (own_one w2 _ x (Nat.le_refl _)) a zs cap HE.out.2.2.2 R2 (by simp; omega) (by simp)
      obtain ⟨g3, cap3, rfl, _, _, R3⟩ := own_slice ho3 (by simp)
      have B3 : Below w1.heap.size w1 w3 := (B2.alloc B2.size _).trans (hb3.mono B2.size)
      have R3' : IntRow (w3.alloc (.cells #[.int .i64 x] 3)) a zs := HE.out.2.2.1.stays (B3.alloc B3.size _) (Nat.le_refl _)
      obtain ⟨v4, w4, hr4, ho4, hb4⟩ := append_ints (w3.alloc (.cells #[.int .i64 x] 3)) w3.heap.size (.slice (some ⟨w3.heap.size, 0, none⟩) 1 1) [x] (own_one w3 _ x (Nat.le_refl _)) a zs cap HE.out.2.2.2 R3' (by simp; omega) (by simp)
      obtain ⟨g4, cap4, rfl, _, _, R4⟩ := own_slice ho4 (by simp)
      have B4 : Below w1.heap.size w1 w4 := (B3.alloc B3.size _).trans (hb4.mono B3.size)
      have HM3 : Hid (Calls Tryd.prog 20 #[.slice (some ⟨g3, 0, none⟩) ([x] ++ zs).length cap3] w3 fun e w' => e = .returned (.int .i64 (Lib.maxOf ([x] ++ zs))) ∧ w' = w3) := max_any _ _ cap3 w3 R3 (by simp; omega)
      have HM4 : Hid (Calls Tryd.prog 20 #[.slice (some ⟨g4, 0, none⟩) ([x] ++ zs).length cap4] w4 fun e w' => e = .returned (.int .i64 (Lib.maxOf ([x] ++ zs))) ∧ w' = w4) := max_any _ _ cap4 w4 R4 (by simp; omega)
      have HX : Hid (x ≤ Lib.maxOf ([x] ++ zs)) := maxOf_head x zs
      have HB4 : Hid (Below w1.heap.size w1 w4) := B4
      have HR3 : Hid ((Builtin.append_ #[22, 22] 22 #[.slice (some ⟨w2.heap.size, 0, none⟩) 1 1, .slice a zs.length cap]).run Tryd.prog (w2.alloc (.cells #[.int .i64 x] 3)) = .ok (.slice (some ⟨g3, 0, none⟩) ([x] ++ zs).length cap3) w3) := hr3
      have HR4 : Hid ((Builtin.append_ #[22, 22] 22 #[.slice (some ⟨w3.heap.size, 0, none⟩) 1 1, .slice a zs.length cap]).run Tryd.prog (w3.alloc (.cells #[.int .i64 x] 3)) = .ok (.slice (some ⟨g4, 0, none⟩) ([x] ++ zs).length cap4) w4) := hr4
      clear hr3 hr4 B2 R2 ho3 hb3 R3 B3 R3' ho4 hb4 R4 B4 hb2 HA HR
      simp only [List.cons_append, List.nil_append, List.length_cons] at *
      generalize hM : Lib.maxOf (x :: zs) = M at *
      clear hM
      go_wp2_with (at_builtin; go_must (refine append_run (by rfl) _ _ (by rfl) (by rfl) _ _ _ _ (by rfl) (by rfl) HR3.out ?_))
      refine Calls.mono HM3.out ?_
      rintro e w' ⟨rfl, hw⟩
      subst hw
      go_wp2_with (at_builtin; go_must (refine append_run (by rfl) _ _ (by rfl) (by rfl) _ _ _ _ (by rfl) (by rfl) HR4.out ?_))
      refine Calls.mono HM4.out ?_
      rintro e w' ⟨rfl, hw⟩
      subst hw
      go_wp2_with fail
      refine Calls.mono (max_two _ x M HX.out _ rfl) ?_
      rintro e w' ⟨rfl, hw⟩
      subst hw
      go_wp2
      go_ret
      exact ⟨rfl, HB4.out.alloc HB4.out.size _⟩
set_option maxHeartbeats 1000000 in
theorem kept_x (x lo hi c : Int) (a : Option Addr) (zs : List Int) (cap : Nat) (w : World) (hm : MaxLenIs w) (ht : PowsAre w) (hr : IntRow w a zs) (hl : zs.length ≤ 200) (hcap : a = none → cap = 0) (hk : keepF x lo hi = c)
    (h1 : lo ≤ x) (h2 : x ≤ hi) (h3 : c = x) :
    Calls Tryd.prog 8 #[.int .i64 x, .int .i64 lo, .int .i64 hi, .slice a zs.length cap] w fun e w' => e = .returned (.bool true) ∧ Below w.heap.size w w' := by
  have HE : Hid (MaxLenIs w ∧ PowsAre w ∧ IntRow w a zs ∧ (a = none → cap = 0)) := ⟨hm, ht, hr, hcap⟩
  have HK : Hid (∀ w, Calls Tryd.prog 24 #[.int .i64 x, .int .i64 lo, .int .i64 hi] w fun e w' => e = .returned (.int .i64 c) ∧ w' = w) := fun w => clamp_is x lo hi c hk w
  have HK2 : Hid (lo ≤ hi → ∀ w, Calls Tryd.prog 24 #[.int .i64 c, .int .i64 lo, .int .i64 hi] w fun e w' => e = .returned (.int .i64 c) ∧ w' = w) := by
    intro hle w
    refine clamp_is c lo hi c ?_ w
    subst h3; unfold keepF
    rw [if_neg (by omega), if_neg (by omega)]
  clear hm ht hr hcap hk
  go_enter Tryd.func8, Tryd.ntmps8
  go_wp2_with fail
  refine Calls.mono (HK.out _) ?_
  rintro e w1 ⟨rfl, hw⟩
  subst hw
  subst h3
  go_wp2_with fail
  refine Calls.mono (HK2.out (by omega) _) ?_
  rintro e w2 ⟨rfl, hw⟩
  have hw' := hw.symm
  subst hw'
  clear hw
  go_wp2_with fail
  go_loopw [10] (fun i wr => ∃ k : Nat, k ≤ zs.length ∧ i = .int .i64 k ∧ Below w1.heap.size w1 wr) (fun i _ => zs.length - (intOf i).toNat)
  case atStart => exact ⟨0, Nat.zero_le _, rfl, Below.refl _ _⟩
  case round =>
    obtain ⟨k, hk, rfl, hbel⟩ := hrel
    have HB : Hid (Below w1.heap.size w1 wr) := hbel
    have HR : Hid (IntRow wr a zs) := HE.out.2.2.1.stays hbel (Nat.le_refl _)
    clear hbel
    by_cases hlt : k < zs.length
    · obtain ⟨b, off, rfl, hc⟩ := HR.out k hlt
      have f1 := maxOf_ge hlt
      have f2 := minOf_le hlt
      generalize zs.getD k 0 = z at *
      have hd1 : decide (Lib.maxOf zs < z) = false := by simp; omega
      have hd2 : decide (z < Lib.minOf zs) = false := by simp; omega
      go_wp2
      have hne := World.new_ne wr ⟨b, off + k, none⟩ hc
      go_region_held3 (fun w' => w'.cell? ⟨b, off + k, none⟩ = some (.int .i64 z)) (go_keep) (first
        | (go_at_call_of 20 (Value.slice (some ⟨b, off, none⟩) zs.length cap); refine (max_any _ zs cap _ ?_ (by omega)).mono ?_; (first | exact HR.out.drew | exact HR.out); rintro e w' ⟨rfl, hw⟩; have hw' := hw.symm; subst hw'; clear hw)
        | (go_at_call_of 22 (Value.slice (some ⟨b, off, none⟩) zs.length cap); refine (min_any _ zs cap _ ?_ (by omega)).mono ?_; (first | exact HR.out.drew | exact HR.out); rintro e w' ⟨rfl, hw⟩; have hw' := hw.symm; subst hw'; clear hw)
        | (go_at_call 20; refine (max_cell _ _ z ?_).mono ?_; simp; rintro e w' ⟨rfl, hw⟩; have hw' := hw.symm; subst hw'; clear hw))
      clear hne hd1 hd2 f1 f2 hc
      go_wp2
      go_roundw
      case rel => exact ⟨k + 1, by omega, by go_num, (HB.out.alloc HB.out.size _).drew⟩
      case measure => simp [intOf]; omega
    · have HA : Hid (Calls Tryd.prog 9 #[] wr fun e w' => e = .returned (.bool true) ∧ Below wr.heap.size wr w') := alive_any wr (HE.out.1.stays HB.out (Nat.le_refl _)) (HE.out.2.1.stays HB.out)
      go_wp2_with fail
      refine Calls.mono HA.out ?_
      rintro e w2 ⟨rfl, hb2⟩
      have B2 : Below w1.heap.size w1 w2 := HB.out.trans (hb2.mono HB.out.size)
      have R2 : IntRow (w2.alloc (.cells #[.int .i64 c] 3)) a zs := HE.out.2.2.1.stays (B2.alloc B2.size _) (Nat.le_refl _)
      obtain ⟨v3, w3, hr3, ho3, hb3⟩ := append_ints (w2.alloc (.cells #[.int .i64 c] 3)) w2.heap.size (.slice (some ⟨w2.heap.size, 0, none⟩) 1 1) [c] (own_one w2 _ c (Nat.le_refl _)) a zs cap HE.out.2.2.2 R2 (by simp; omega) (by simp)
      obtain ⟨g3, cap3, rfl, _, _, R3⟩ := own_slice ho3 (by simp)
      have B3 : Below w1.heap.size w1 w3 := (B2.alloc B2.size _).trans (hb3.mono B2.size)
      have R3' : IntRow (w3.alloc (.cells #[.int .i64 c] 3)) a zs := HE.out.2.2.1.stays (B3.alloc B3.size _) (Nat.le_refl _)
      obtain ⟨v4, w4, hr4, ho4, hb4⟩ := append_ints (w3.alloc (.cells #[.int .i64 c] 3)) w3.heap.size (.slice (some ⟨w3.heap.size, 0, none⟩) 1 1) [c] (own_one w3 _ c (Nat.le_refl _)) a zs cap HE.out.2.2.2 R3' (by simp; omega) (by simp)
      obtain ⟨g4, cap4, rfl, _, _, R4⟩ := own_slice ho4 (by simp)
      have B4 : Below w1.heap.size w1 w4 := (B3.alloc B3.size _).trans (hb4.mono B3.size)
      have HM3 : Hid (Calls Tryd.prog 20 #[.slice (some ⟨g3, 0, none⟩) ([c] ++ zs).length cap3] w3 fun e w' => e = .returned (.int .i64 (Lib.maxOf ([c] ++ zs))) ∧ w' = w3) := max_any _ _ cap3 w3 R3 (by simp; omega)
      have HM4 : Hid (Calls Tryd.prog 20 #[.slice (some ⟨g4, 0, none⟩) ([c] ++ zs).length cap4] w4 fun e w' => e = .returned (.int .i64 (Lib.maxOf ([c] ++ zs))) ∧ w' = w4) := max_any _ _ cap4 w4 R4 (by simp; omega)
      have HX : Hid (c ≤ Lib.maxOf ([c] ++ zs)) := maxOf_head c zs
      have HB4 : Hid (Below w1.heap.size w1 w4) := B4
      have HR3 : Hid ((Builtin.append_ #[22, 22] 22 #[.slice (some ⟨w2.heap.size, 0, none⟩) 1 1, .slice a zs.length cap]).run Tryd.prog (w2.alloc (.cells #[.int .i64 c] 3)) = .ok (.slice (some ⟨g3, 0, none⟩) ([c] ++ zs).length cap3) w3) := hr3
      have HR4 : Hid ((Builtin.append_ #[22, 22] 22 #[.slice (some ⟨w3.heap.size, 0, none⟩) 1 1, .slice a zs.length cap]).run Tryd.prog (w3.alloc (.cells #[.int .i64 c] 3)) = .ok (.slice (some ⟨g4, 0, none⟩) ([c] ++ zs).length cap4) w4) := hr4
      clear hr3 hr4 B2 R2 ho3 hb3 R3 B3 R3' ho4 hb4 R4 B4 hb2 HA HR
      simp only [List.cons_append, List.nil_append, List.length_cons] at *
      generalize hM : Lib.maxOf (c :: zs) = M at *
      clear hM
      go_wp2_with (at_builtin; go_must (refine append_run (by rfl) _ _ (by rfl) (by rfl) _ _ _ _ (by rfl) (by rfl) HR3.out ?_))
      refine Calls.mono HM3.out ?_
      rintro e w' ⟨rfl, hw⟩
      subst hw
      go_wp2_with (at_builtin; go_must (refine append_run (by rfl) _ _ (by rfl) (by rfl) _ _ _ _ (by rfl) (by rfl) HR4.out ?_))
      refine Calls.mono HM4.out ?_
      rintro e w' ⟨rfl, hw⟩
      subst hw
      go_wp2_with fail
      refine Calls.mono (max_two _ c M HX.out _ rfl) ?_
      rintro e w' ⟨rfl, hw⟩
      subst hw
      go_wp2
      go_ret
      exact ⟨rfl, HB4.out.alloc HB4.out.size _⟩

theorem kept_any (x lo hi : Int) (a : Option Addr) (len cap : Nat) (zs : List Int) (w : World) (hm : MaxLenIs w) (ht : PowsAre w) (x1 : -9223372036854775808 ≤ x) (x2 : x ≤ 9223372036854775807) (l1 : -9223372036854775808 ≤ lo) (l2 : lo ≤ 9223372036854775807) (h1 : -9223372036854775808 ≤ hi) (h2 : hi ≤ 9223372036854775807) (hz : IsInts w a len cap zs) :
    Calls Tryd.prog 8 #[.int .i64 x, .int .i64 lo, .int .i64 hi, .slice a len cap] w fun e w' => e = .returned (.bool true) ∧ Below w.heap.size w w' := by
  obtain ⟨r1, r2, r3, r4⟩ := hz.row
  have r5 := hz.nocap
  by_cases h : 200 < len
  · exact kept_many x lo hi a len cap w hm ht h r4
  · have hl : (zs.take len).length ≤ 200 := by omega
    have key : Calls Tryd.prog 8 #[.int .i64 x, .int .i64 lo, .int .i64 hi, .slice a (zs.take len).length cap] w fun e w' => e = .returned (.bool true) ∧ Below w.heap.size w w' := by
      by_cases c1 : hi < lo
      · exact kept_none x lo hi _ a (zs.take len) cap w hm ht r1 hl r5 rfl c1
      · by_cases c2 : hi < x
        · exact kept_hi x lo hi _ a (zs.take len) cap w hm ht r1 hl r5 rfl (by omega) c2 (by unfold keepF; rw [if_pos c2])
        · by_cases c3 : x < lo
          · exact kept_lo x lo hi _ a (zs.take len) cap w hm ht r1 hl r5 rfl (by omega) c3 (by unfold keepF; rw [if_neg c2, if_pos c3])
          · exact kept_x x lo hi _ a (zs.take len) cap w hm ht r1 hl r5 rfl (by omega) (by omega) (by unfold keepF; rw [if_neg c2, if_neg c3])
    rw [r2] at key; exact key
end Go.Proofs.YtpojkaeclfgfkaaDoor
