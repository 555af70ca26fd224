/- The contracts of lex's signSize, measure and value. Conditions: a text of at most 1000000 bytes; the table of signs holds what the program's text lays; the library's own variable MaxLen holds some int. -/
import Derived.Test.YtkkgfbhngoijaaaDoorLxB
namespace Go.Proofs.YtkkgfbhngoijaaaDoor
open Go.RowKit
set_option linter.unusedVariables false
set_option maxRecDepth 100000

/-- The signs, in the table's order. -/
def signsL : List (List UInt8) := [[60, 61], [62, 61], [61, 62], [123], [125], [40], [41], [91], [93], [44], [59], [58], [61], [60], [62], [43], [45], [42]]
def signsV : Array Value := (signsL.map fun l => Value.string (strL l)).toArray
/-- The table of signs holds them. -/
def SignsAre (w : World) : Prop := ∀ i, i < 18 → w.cell? ⟨0, i, none⟩ = some (.string (strL (signsL.getD i [])))
theorem SignsAre.cell {w w' : World} (h : SignsAre w) (hb : ∀ i, w'.cell? ⟨0, i, none⟩ = w.cell? ⟨0, i, none⟩) : SignsAre w' := fun i hi => (hb i).trans (h i hi)
theorem SignsAre.lt {w : World} (h : SignsAre w) : 0 < w.heap.size := World.block_lt_of_cell? w ⟨0, 0, none⟩ (h 0 (by omega))
theorem SignsAre.mod {S : List Nat} {w w' : World} (h : SignsAre w) (hb : Mod S w w') (hS : 0 ∉ S) : SignsAre w' := h.cell fun i => hb.cellEq h.lt hS
theorem SignsAre.below {B : Nat} {w w' : World} (h : SignsAre w) (hb : Below B w w') (hB : 0 < B) : SignsAre w' := h.cell fun i => hb.cell (p := ⟨0, i, none⟩) hB

/-- The sign at the beginning, of those from the k-th on. -/
def signFrom (l : List UInt8) : List (List UInt8) → Nat
  | [] => 0
  | g :: gs => if Lib.hasPrefix l g then g.length else signFrom l gs
def signL (l : List UInt8) : Nat := signFrom l signsL
theorem hasPrefix_len {l g : List UInt8} (h : Lib.hasPrefix l g = true) : g.length ≤ l.length := by
  unfold Lib.hasPrefix at h
  first | exact (List.isPrefixOf_iff_prefix.1 h).length_le | (simp at h; omega)
theorem signFrom_le (l : List UInt8) (gs : List (List UInt8)) : signFrom l gs ≤ l.length := by
  induction gs with
  | nil => simp [signFrom]
  | cons g gs ih => simp only [signFrom]; split; rename_i h; exact hasPrefix_len h; exact ih

def sgnV (i : Nat) : Value := .string (strL (signsL.getD i []))
def signsA : Value := .agg #[sgnV 0, sgnV 1, sgnV 2, sgnV 3, sgnV 4, sgnV 5, sgnV 6, sgnV 7, sgnV 8, sgnV 9, sgnV 10, sgnV 11, sgnV 12, sgnV 13, sgnV 14, sgnV 15, sgnV 16, sgnV 17]
theorem signs_index (w : World) (k : Nat) (hk : k < 18) : (Instr.index 53 signsA (.int .i64 (k : Int))).run Tryd.prog w = .ok (.string (strL (signsL.getD k []))) w := by
  have : k = 0 ∨ k = 1 ∨ k = 2 ∨ k = 3 ∨ k = 4 ∨ k = 5 ∨ k = 6 ∨ k = 7 ∨ k = 8 ∨ k = 9 ∨ k = 10 ∨ k = 11 ∨ k = 12 ∨ k = 13 ∨ k = 14 ∨ k = 15 ∨ k = 16 ∨ k = 17 := by omega
  rcases this with rfl | rfl | rfl | rfl | rfl | rfl | rfl | rfl | rfl | rfl | rfl | rfl | rfl | rfl | rfl | rfl | rfl | rfl
  all_goals (show _ = _; kernel_rfl)
theorem signFrom_drop (l : List UInt8) (gs : List (List UInt8)) (k : Nat) (hk : k < gs.length) : signFrom l (gs.drop k) = if Lib.hasPrefix l (gs.getD k []) then (gs.getD k []).length else signFrom l (gs.drop (k + 1)) := by
  rw [List.drop_eq_getElem_cons hk, List.getD_eq_getElem?_getD, List.getElem?_eq_getElem hk]; rfl

set_option maxHeartbeats 400000 in
theorem signSize_any (l : List UInt8) (w : World) (hs : l.length ≤ 1000000) (h : SignsAre w) :
    Calls Tryd.prog 25 #[.string (strL l)] w fun e w' => e = .returned (.int .i64 (signL l)) ∧ w' = w := by
  have h0 : w.cell? ⟨0, 0, none⟩ = some (sgnV 0) := h 0 (by omega)
  have h1 : w.cell? ⟨0, 1, none⟩ = some (sgnV 1) := h 1 (by omega)
  have h2 : w.cell? ⟨0, 2, none⟩ = some (sgnV 2) := h 2 (by omega)
  have h3 : w.cell? ⟨0, 3, none⟩ = some (sgnV 3) := h 3 (by omega)
  have h4 : w.cell? ⟨0, 4, none⟩ = some (sgnV 4) := h 4 (by omega)
  have h5 : w.cell? ⟨0, 5, none⟩ = some (sgnV 5) := h 5 (by omega)
  have h6 : w.cell? ⟨0, 6, none⟩ = some (sgnV 6) := h 6 (by omega)
  have h7 : w.cell? ⟨0, 7, none⟩ = some (sgnV 7) := h 7 (by omega)
  have h8 : w.cell? ⟨0, 8, none⟩ = some (sgnV 8) := h 8 (by omega)
  have h9 : w.cell? ⟨0, 9, none⟩ = some (sgnV 9) := h 9 (by omega)
  have h10 : w.cell? ⟨0, 10, none⟩ = some (sgnV 10) := h 10 (by omega)
  have h11 : w.cell? ⟨0, 11, none⟩ = some (sgnV 11) := h 11 (by omega)
  have h12 : w.cell? ⟨0, 12, none⟩ = some (sgnV 12) := h 12 (by omega)
  have h13 : w.cell? ⟨0, 13, none⟩ = some (sgnV 13) := h 13 (by omega)
  have h14 : w.cell? ⟨0, 14, none⟩ = some (sgnV 14) := h 14 (by omega)
  have h15 : w.cell? ⟨0, 15, none⟩ = some (sgnV 15) := h 15 (by omega)
  have h16 : w.cell? ⟨0, 16, none⟩ = some (sgnV 16) := h 16 (by omega)
  have h17 : w.cell? ⟨0, 17, none⟩ = some (sgnV 17) := h 17 (by omega)
  have hpre : Hid (∀ (g : List UInt8) (W : World), Calls Tryd.prog 20 #[.string (strL l), .string (strL g)] W fun e w' => e = .returned (.bool (Lib.hasPrefix l g)) ∧ w' = W) := by
    intro g W
    have := Tryd.strings_HasPrefix (strL l) (strL g) W
    rw [strL_toList, strL_toList] at this; exact this
  generalize strL l = s at *
  clear h
  go_enter Tryd.func25, Tryd.ntmps25
  go_wp2
  clear h0 h1 h2 h3 h4 h5 h6 h7 h8 h9 h10 h11 h12 h13 h14 h15 h16 h17
  change Code.wp _ _ _ ⟨#[.string s, undef, .int .i64 0, undef, undef, signsA, .int .i64 0, undef, undef, undef, undef, undef, undef, undef, undef], []⟩ _
  go_loop [6] (fun i => ∃ k : Nat, k ≤ 18 ∧ i = .int .i64 k ∧ signL l = signFrom l (signsL.drop k)) (fun i => 18 - (intOf i).toNat)
  case atStart => exact ⟨0, Nat.zero_le _, rfl, rfl⟩
  case round =>
    obtain ⟨k, hk, rfl, hall⟩ := hrel
    have HL : Hid (signL l = signFrom l (signsL.drop k)) := hall
    clear hall
    by_cases hlt : k < 18
    · have hix := fun W => signs_index W k hlt
      have HF : Hid (signFrom l (signsL.drop k) = if Lib.hasPrefix l (signsL.getD k []) then (signsL.getD k []).length else signFrom l (signsL.drop (k + 1))) := signFrom_drop l signsL k hlt
      have hc := hpre.out (signsL.getD k [])
      have hsz : (strL (signsL.getD k [])).size = (signsL.getD k []).length := strL_size _
      generalize strL (signsL.getD k []) = g at *
      generalize (signsL.getD k []).length = gn at *
      generalize signsA = V at *
      cases hx : Lib.hasPrefix l (signsL.getD k []) with
      | true =>
        rw [hx] at hc HF
        clear hx
        go_wp2_with (go_at_call 20; refine (hc _).mono ?_; rintro e w' ⟨rfl, rfl⟩)
        go_ret
        exact ⟨ret_int (by rw [HL.out, HF.out]; rfl), rfl⟩
      | false =>
        rw [hx] at hc HF
        clear hx
        go_wp2_with (go_at_call 20; refine (hc _).mono ?_; rintro e w' ⟨rfl, rfl⟩)
        go_round
        case rel => exact ⟨k + 1, by omega, by go_num, by rw [HL.out, HF.out]; rfl⟩
        case measure => simp [intOf]; omega
    · have hkk : k = 18 := by omega
      subst hkk
      go_wp2
      go_ret
      exact ⟨ret_int (by rw [HL.out]; rfl), rfl⟩
end Go.Proofs.YtkkgfbhngoijaaaDoor
