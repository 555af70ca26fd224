/- Wire's Same. Conditions: lengths and numbers of 64 bits. -/
import Derived.Test.YtglkoedmonenoaaWrI
namespace Go.Proofs.Ytglkoedmonenoaa
open Go.RowKit
set_option linter.unusedVariables false
set_option maxRecDepth 100000

def FrV.same (f g : FrV) : Bool := ((f.k == g.k && f.fr == g.fr) && f.t == g.t) && (f.zs == g.zs && f.d == g.d)
theorem FrV.same_iff (f g : FrV) : f.same g = true ↔ f = g := by
  obtain ⟨k, fr, t, zs, d⟩ := f
  obtain ⟨k', fr', t', zs', d'⟩ := g
  simp [FrV.same, and_assoc]
theorem toList_text (d : List UInt8) : (⟨d.toArray⟩ : ByteArray).toList = d := by simp [ByteArray.toList_eq]
set_option maxHeartbeats 1000000 in
theorem same_any (f g : FrV) {w : World} {a a2 : Option Addr} {cap cap2 : Nat} (hx : IntRow w a f.zs) (hz : IntRow w a2 g.zs) (l1 : f.zs.length ≤ 9223372036854775807) (l2 : g.zs.length ≤ 9223372036854775807) :
    Calls Try.prog 9 #[frOf f (.slice a f.zs.length cap), frOf g (.slice a2 g.zs.length cap2)] w fun e w' => e = .returned (.bool (f.same g)) ∧ Below w.heap.size w w' := by
  obtain ⟨k, fr, t, zs, d⟩ := f
  obtain ⟨k', fr', t', zs', d'⟩ := g
  unfold frOf
  dsimp only at *
  have HX : Hid (∀ X, Below w.heap.size w X → Calls Try.prog 17 #[.slice a zs.length cap, .slice a2 zs'.length cap2] X fun e w' => e = .returned (.bool (zs == zs')) ∧ Below X.heap.size X w') := fun X h => equals_any (hx.grow h) (hz.grow h) l1 l2
  have HB : Hid (Below w.heap.size w ((w.alloc (.cells #[.int .i64 k, .int .i64 fr, .int .i64 t, .slice a zs.length cap, .string ⟨d.toArray⟩] 26)).alloc (.cells #[.int .i64 k', .int .i64 fr', .int .i64 t', .slice a2 zs'.length cap2, .string ⟨d'.toArray⟩] 26))) :=
    ((Below.refl _ w).alloc (Nat.le_refl _) _).alloc (by simp) _
  by_cases h1 : k = k'
  case neg =>
    have HS : Hid ((⟨k, fr, t, zs, d⟩ : FrV).same ⟨k', fr', t', zs', d'⟩ = false) := by
      show _ = _
      rw [Bool.eq_false_iff, ne_eq, FrV.same_iff]; intro e; simp only [FrV.mk.injEq] at e; exact h1 e.1
    have h' : (k == k') = false := by simpa using h1
    clear hx hz
    go_enter Try.func9, Try.ntmps9
    go_wp2
    go_ret
    exact ⟨by rw [HS.out]; rfl, HB.out⟩
  subst h1
  by_cases h2 : fr = fr'
  case neg =>
    have HS : Hid ((⟨k, fr, t, zs, d⟩ : FrV).same ⟨k, fr', t', zs', d'⟩ = false) := by
      show _ = _
      rw [Bool.eq_false_iff, ne_eq, FrV.same_iff]; intro e; simp only [FrV.mk.injEq] at e; exact h2 e.2.1
    have h' : (fr == fr') = false := by simpa using h2
    clear hx hz
    go_enter Try.func9, Try.ntmps9
    go_wp2
    go_ret
    exact ⟨by rw [HS.out]; rfl, HB.out⟩
  subst h2
  by_cases h3 : t = t'
  case neg =>
    have HS : Hid ((⟨k, fr, t, zs, d⟩ : FrV).same ⟨k, fr, t', zs', d'⟩ = false) := by
      show _ = _
      rw [Bool.eq_false_iff, ne_eq, FrV.same_iff]; intro e; simp only [FrV.mk.injEq] at e; exact h3 e.2.2.1
    have h' : (t == t') = false := by simpa using h3
    clear hx hz
    go_enter Try.func9, Try.ntmps9
    go_wp2
    go_ret
    exact ⟨by rw [HS.out]; rfl, HB.out⟩
  subst h3
  have HS : Hid ((⟨k, fr, t, zs, d⟩ : FrV).same ⟨k, fr, t, zs', d'⟩ = (zs == zs' && d == d')) := by
    show _ = _
    simp [FrV.same]
  have HD : Hid ((d == d') = ((⟨d.toArray⟩ : ByteArray).toList == (⟨d'.toArray⟩ : ByteArray).toList)) := by
    show _ = _
    rw [toList_text, toList_text]
  clear hx hz
  rw [HD.out] at HS
  have hn : zs.length ≤ 9223372036854775807 := l1
  have hn' : zs'.length ≤ 9223372036854775807 := l2
  clear l1 l2
  obtain ⟨s, hs⟩ : ∃ s, (⟨d.toArray⟩ : ByteArray) = s := ⟨_, rfl⟩
  obtain ⟨s', hs'⟩ : ∃ s, (⟨d'.toArray⟩ : ByteArray) = s := ⟨_, rfl⟩
  rw [hs, hs'] at HB HS HD ⊢
  clear HD
  go_enter Try.func9, Try.ntmps9
  go_wp2_with fail
  refine Calls.mono (HX.out _ HB.out) ?_
  rintro e W2 ⟨rfl, hb⟩
  have HB2 : Hid (Below w.heap.size w W2) := HB.out.trans (hb.mono HB.out.size)
  have c0 : W2.cell? ⟨w.heap.size, 4, none⟩ = some (.string s) := (Mod.of_below (S := []) hb).cell (by simp [go_sem]) (by simp)
  have c1 : W2.cell? ⟨w.heap.size + 1, 4, none⟩ = some (.string s') := (Mod.of_below (S := []) hb).cell (by simp [go_sem]) (by simp)
  clear hb HB
  cases hq : (zs == zs') with
  | false =>
    rw [hq] at HS
    clear hq
    go_wp2
    go_ret
    exact ⟨by rw [HS.out]; rfl, HB2.out⟩
  | true =>
    rw [hq] at HS
    clear hq
    go_wp2
    go_ret
    exact ⟨by rw [HS.out]; rfl, HB2.out⟩
end Go.Proofs.Ytglkoedmonenoaa
