/- The contract of the laws' first call, alive. -/
import Derived.Test.YtkkgfbhngoijaaaDoorLxH
namespace Go.Proofs.YtkkgfbhngoijaaaDoor
open Go.RowKit
set_option linter.unusedVariables false
set_option maxRecDepth 100000

theorem scan_one : scanT [120, 32, 60, 61, 32, 49, 46, 53, 59] = ([⟨1, [120], 0, 1, 1⟩, ⟨3, [60, 61], 0, 1, 3⟩, ⟨2, [49, 46, 53], 6442450944, 1, 6⟩, ⟨3, [59], 0, 1, 9⟩, ⟨0, [], 0, 1, 10⟩], 0, 0, 0) := by kernel_rfl
theorem scan_two : scanT [97, 10, 32, 48, 49] = ([], 11, 2, 2) := by kernel_rfl
theorem name_one : isNameL [97, 95, 49] = true := by kernel_rfl

theorem SignsAre.on {W X : World} (h : SignsAre W) (hX : Below W.heap.size W X) : SignsAre X := h.below hX h.lt
theorem MaxLenIs.on {W X : World} (h : MaxLenIs W) (hX : Below W.heap.size W X) : MaxLenIs X := by
  obtain ⟨m, hm⟩ := h; exact ⟨m, by rw [hX.cell (p := ⟨1, 0, none⟩) (World.block_lt_of_cell? W _ hm)]; exact hm⟩

set_option maxHeartbeats 1000000 in
theorem alive_any (W : World) (hs : SignsAre W) (hm : MaxLenIs W) :
    Calls Tryd.prog 6 #[] W fun e W' => e = .returned (.bool true) ∧ Below W.heap.size W W' := by
  have h1 := scan_any [120, 32, 60, 61, 32, 49, 46, 53, 59] W (by simp) hs hm
  have H2 : Hid (∀ X, Below W.heap.size W X → Calls Tryd.prog 7 #[.string (strL [97, 10, 32, 48, 49])] X fun e W' => ∃ v, e = .returned (scanV v (scanT [97, 10, 32, 48, 49])) ∧ Scanned X W' v [97, 10, 32, 48, 49]) := fun X hX => scan_any _ X (by simp) (hs.on hX) (hm.on hX)
  have h3 := isName_any [97, 95, 49]
  rw [name_one] at h3
  rw [scan_one] at h1
  have e1 : strL [120, 32, 60, 61, 32, 49, 46, 53, 59] = ⟨#[120, 32, 60, 61, 32, 49, 46, 53, 59]⟩ := rfl
  have e2 : strL [97, 10, 32, 48, 49] = ⟨#[97, 10, 32, 48, 49]⟩ := rfl
  have e3 : strL [97, 95, 49] = ⟨#[97, 95, 49]⟩ := rfl
  rw [e1] at h1
  rw [e2, scan_two] at H2
  rw [e3] at h3
  simp only [scanV] at h1 H2
  clear hs hm e1 e2 e3
  go_enter Tryd.func6, Tryd.ntmps6
  go_wp2_with fail
  refine Calls.mono h1 ?_
  rintro e W1 ⟨v1, rfl, ho, hb1⟩
  have HB1 : Hid (Below W.heap.size W W1) := hb1
  rw [scan_one] at ho
  have HO : Hid (OW W1 W.heap.size v1 [⟨1, [120], 0, 1, 1⟩, ⟨3, [60, 61], 0, 1, 3⟩, ⟨2, [49, 46, 53], 6442450944, 1, 6⟩, ⟨3, [59], 0, 1, 9⟩, ⟨0, [], 0, 1, 10⟩]) := ho
  clear h1 hb1 ho
  go_wp2_with fail
  refine Calls.mono (H2.out _ HB1.out) ?_
  rintro e W2 ⟨v2, rfl, _, hb2⟩
  have HB2 : Hid (Below W.heap.size W W2) := HB1.out.trans (hb2.mono HB1.out.size)
  obtain ⟨a, cap, rfl, _, hc⟩ := HO.out.sl
  obtain ⟨g, rfl, _, hg, hj⟩ := hc 2 (by simp)
  obtain ⟨g', hg', _, _, hj'⟩ := hc 4 (by simp)
  cases hg'
  have k1 := hj 2 (by omega)
  have k2 := hj' 4 (by omega)
  rw [← hb2.cell (p := ⟨g, _, none⟩) hg] at k1 k2
  simp [wordC] at k1 k2
  clear hj hj' hc hb2 HO H2 hg
  go_wp2_with (go_at_call 8; refine (h3 _ (by simp)).mono ?_; rintro e w' ⟨rfl, rfl⟩)
  go_ret
  exact ⟨rfl, HB2.out⟩
end Go.Proofs.YtkkgfbhngoijaaaDoor
