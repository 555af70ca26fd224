/- The contract of chapter 6's Light. Conditions: what came in. -/
import Derived.Test.YtipbjoeekbgnbaaBz5
namespace Go.Proofs.Ytipbjoeekbgnbaa
open Go.RowKit
set_option linter.unusedVariables false
set_option maxRecDepth 100000

def lightT (t : Tm) : Bool := decide (t.name.size ≤ 60)
def lightN (x : Nd) : Bool := decide (x.terms.length ≤ 20) && x.terms.all lightT
def lightB (l : List Nd) : Bool := decide (l.length ≤ 310) && l.all lightN
theorem all_takeX {X : Type} (p : X → Bool) (z : X) (l : List X) (k : Nat) (hk : k < l.length) : (l.take (k + 1)).all p = ((l.take k).all p && p (l.getD k z)) := by
  rw [List.take_succ_eq_append_getElem hk, List.all_append]
  simp [List.getD_eq_getElem?_getD, hk]
theorem all_badX {X : Type} (p : X → Bool) (z : X) (l : List X) (k : Nat) (hk : k < l.length) (h : p (l.getD k z) = false) : l.all p = false := by
  rw [List.all_eq_false]
  refine ⟨l[k], List.getElem_mem hk, ?_⟩
  simpa [List.getD_eq_getElem?_getD, hk] using h
set_option maxHeartbeats 4000000 in
theorem light_any (a : Option Addr) (cap : Nat) (l : List Nd) (W : World) (h : NodeRow W a l) (hl : l.length ≤ 9223372036854775807) :
    Calls Try.prog 4 #[.slice a l.length cap] W fun e W' => e = .returned (.bool (lightB l)) ∧ W' = W := by
  by_cases hb : l.length ≤ 310
  · have HE : Hid (lightB l = l.all lightN) := by simp [Hid, lightB, hb]
    have HR : Hid (NodeRow W a l) := h
    clear h hl
    go_enter Try.func4, Try.ntmps4
    go_wp2
    go_loop [3] (fun i => ∃ k : Nat, k ≤ l.length ∧ i = .int .i64 k ∧ (l.take k).all lightN = true) (fun i => l.length - (intOf i).toNat)
    case atStart => exact ⟨0, Nat.zero_le _, rfl, rfl⟩
    case round =>
      obtain ⟨k, hk, rfl, ha⟩ := hrel
      have HA : Hid ((l.take k).all lightN = true) := ha
      clear ha
      by_cases hlt : k < l.length
      · obtain ⟨b, off, rfl, n0, n1, n2, n3, ⟨ta, tc, n4, ht⟩, n5⟩ := HR.out k hlt
        have HT : Hid ((l.take (k + 1)).all lightN = ((l.take k).all lightN && lightN (l.getD k nd0))) := all_takeX _ nd0 l k hlt
        have HTB : Hid (lightN (l.getD k nd0) = false → l.all lightN = false) := fun q => all_badX _ nd0 l k hlt q
        have HTR : Hid (TermRow W ta (l.getD k nd0).terms) := ht
        have HLN : Hid (lightN (l.getD k nd0) = (decide ((l.getD k nd0).terms.length ≤ 20) && (l.getD k nd0).terms.all lightT)) := rfl
        clear n0 n1 n2 n3 n5 ht
        generalize lightN (l.getD k nd0) = ln at *
        generalize (l.getD k nd0).terms = ts at *
        by_cases h20 : ts.length ≤ 20
        · have HL2 : Hid (ln = ts.all lightT) := by show _ = _; rw [HLN.out]; simp [h20]
          have h20b : ¬ (20 : Int) < (ts.length : Int) := by omega
          clear HLN h20
          go_wp2
          go_loop [4] (fun j => ∃ i : Nat, i ≤ ts.length ∧ j = .int .i64 i ∧ (ts.take i).all lightT = true) (fun j => ts.length - (intOf j).toNat)
          case atStart => exact ⟨0, Nat.zero_le _, rfl, rfl⟩
          case round =>
            obtain ⟨i, hi, rfl, hj⟩ := hrel
            have HJ : Hid ((ts.take i).all lightT = true) := hj
            clear hj
            by_cases hlt2 : i < ts.length
            · obtain ⟨b2, off2, rfl, t0, t1⟩ := HTR.out i hlt2
              have HU : Hid ((ts.take (i + 1)).all lightT = ((ts.take i).all lightT && lightT (ts.getD i tm0))) := all_takeX _ tm0 ts i hlt2
              have HUB : Hid (lightT (ts.getD i tm0) = false → ts.all lightT = false) := fun q => all_badX _ tm0 ts i hlt2 q
              have HLT : Hid (lightT (ts.getD i tm0) = decide ((ts.getD i tm0).name.size ≤ 60)) := rfl
              clear t1
              generalize lightT (ts.getD i tm0) = lt at *
              generalize (ts.getD i tm0).name = tn at *
              by_cases h60 : tn.size ≤ 60
              · have HLT2 : Hid (lt = true) := by show _ = _; rw [HLT.out]; simp [h60]
                go_wp2
                go_round
                case rel => exact ⟨i + 1, by omega, by go_num, by rw [HU.out, HJ.out, HLT2.out]; rfl⟩
                case measure => simp [intOf]; omega
              · have HLT2 : Hid (lt = false) := by show _ = _; rw [HLT.out]; simpa using h60
                have h60b : (60 : Int) < (tn.size : Int) := by omega
                clear h60
                go_wp2
                go_ret
                exact ⟨ret_bool (by rw [HE.out, HTB.out (by rw [HL2.out, HUB.out HLT2.out])]), rfl⟩
            · have hii : i = ts.length := by omega
              have HZ : Hid (ts.all lightT = true) := by have := HJ.out; rw [hii, List.take_length] at this; exact this
              clear hii
              go_wp2
              go_round
              case rel => exact ⟨k + 1, by omega, by go_num, by rw [HT.out, HA.out, HL2.out, HZ.out]; rfl⟩
              case measure => simp [intOf]; omega
        · have HL2 : Hid (ln = false) := by show _ = _; rw [HLN.out]; simp [h20]
          have h20b : (20 : Int) < (ts.length : Int) := by omega
          clear HLN h20
          go_wp2
          go_ret
          exact ⟨ret_bool (by rw [HE.out, HTB.out HL2.out]), rfl⟩
      · have hkk : k = l.length := by omega
        have HZ : Hid (l.all lightN = true) := by have := HA.out; rw [hkk, List.take_length] at this; exact this
        clear hkk
        go_wp2
        go_ret
        exact ⟨ret_bool (by rw [HE.out, HZ.out]), rfl⟩
  · have HE : Hid (lightB l = false) := by simp [Hid, lightB, hb]
    have hb2 : (310 : Int) < (l.length : Int) := by omega
    clear h hb
    go_enter Try.func4, Try.ntmps4
    go_wp2
    go_ret
    exact ⟨ret_bool HE.out.symm, rfl⟩
end Go.Proofs.Ytipbjoeekbgnbaa
