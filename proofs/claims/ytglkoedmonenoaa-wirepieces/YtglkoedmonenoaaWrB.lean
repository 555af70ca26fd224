/- Rows of bytes that the call makes by append; wire's lay; bytes.HasPrefix; wire's checkSum. Conditions: a list's own length. -/
import Derived.Test.YtglkoedmonenoaaWrA
namespace Go.Proofs.Ytglkoedmonenoaa
open Go.RowKit
set_option linter.unusedVariables false
set_option maxRecDepth 100000

/-- Bytes as cells. -/
def byteCells (l : List UInt8) : List Value := l.map fun c => Value.int .u8 c.toNat
/-- A row of bytes of the call's own. -/
def OB (w : World) (B : Nat) (v : Value) (l : List UInt8) : Prop := w.ownsRow B 5 1 v l.length (byteCells l)
theorem OB.below {w w' : World} {B : Nat} {v : Value} {l : List UInt8} (h : OB w B v l) (k : Below w.heap.size w w') : OB w' B v l := by
  refine ⟨h.1, ?_⟩
  rcases h.2 with h2 | ⟨g, cap, cur, e, hg, hb, h3⟩
  · exact Or.inl h2
  · refine Or.inr ⟨g, cap, cur, e, hg, ?_, h3⟩
    rw [k.block g (Array.getElem?_eq_some_iff.1 hb).1]; exact hb
theorem OB.mono {w : World} {B C : Nat} {v : Value} {l : List UInt8} (h : OB w B v l) (k : C ≤ B) : OB w C v l := by
  refine ⟨h.1, ?_⟩
  rcases h.2 with h2 | ⟨g, cap, cur, e, hg, h3⟩
  · exact Or.inl h2
  · exact Or.inr ⟨g, cap, cur, e, by omega, h3⟩
theorem OB.nil (w : World) (B : Nat) : OB w B (.slice none 0 0) [] := World.ownsRow_nil w B _ _
theorem OB.bs {w : World} {B : Nat} {v : Value} {l : List UInt8} (h : OB w B v l) : ∃ a cap, v = .slice a l.length cap ∧ BS w a cap l ∧ (∀ x, a = some x → B ≤ x.block) ∧ cap ≤ maxLen := by
  have hc := fun g hg => World.ownsRow.cells h (g := g) hg
  rcases h.2 with ⟨rfl, h2⟩ | ⟨g, cap, cur, rfl, hg, hb, h1, h3, _⟩
  · have : l = [] := List.eq_nil_of_length_eq_zero h2
    subst this
    exact ⟨none, 0, rfl, ⟨fun i hi => by simp at hi, by simp, fun _ => rfl, by omega⟩, ⟨fun x hx => (by cases hx), (by unfold maxLen; omega)⟩⟩
  · refine ⟨_, cap, rfl, ⟨fun i hi => ⟨g, 0, rfl, ?_⟩, h1, fun e => (by cases e), by unfold maxLen at h3; omega⟩, fun x hx => by cases hx; exact hg, h3⟩
    have := hc g rfl i (.int .u8 (l.getD i 0).toNat) (by simp [byteCells, List.getD_eq_getElem?_getD, hi])
    rw [addr_add] at this; exact this
theorem infoU8 : (Try.prog.info? 5).map (fun i => (i.zero, i.size, i.bytes)) = some (some (.int .u8 0), 1, 1) := by kernel_rfl
/-- 'append(v, s...)', s a string. -/
theorem OB.text {W : World} {B : Nat} {v : Value} {l : List UInt8} (h : OB W B v l) (s : ByteArray) (hn : l.length + s.size ≤ 1000000000) (hB : B ≤ W.heap.size) :
    ∃ v' w', (Builtin.append_ #[35, 9] 35 #[v, .string s]).run Try.prog W = .ok v' w' ∧ OB w' B v' (l ++ s.data.toList) ∧ Below B W w' := by
  obtain ⟨i0, hi, hz0, hz1, hz2⟩ := info_parts infoU8
  obtain ⟨v', w', h1, h2, h3, _⟩ := Lib.run_append_own_string (P := Try.prog) W B 35 9 35 5 i0 Try.underlying35 Try.underlying9 hi hz0 hz1 hz2 v l.length (byteCells l) h s (by unfold maxLen; omega) (by omega) hB
  refine ⟨v', w', h1, ?_, (Below.refl B W).grown h3 hB (fun k hk => (h.lt k hk).1)⟩
  unfold OB
  rw [show byteCells (l ++ s.data.toList) = byteCells l ++ Lib.strCells s by simp [byteCells, Lib.strCells], show (l ++ s.data.toList).length = l.length + s.size by simp]
  exact h2
/-- 'append(v, b...)', b bytes. -/
theorem OB.bytes {W : World} {B : Nat} {v : Value} {l : List UInt8} (h : OB W B v l) {a : Option Addr} {cap : Nat} {m : List UInt8} (hm : BS W a cap m) (n : Nat) (hn' : n = m.length) (hn : l.length + m.length ≤ 1000000000) (hB : B ≤ W.heap.size) :
    ∃ v' w', (Builtin.append_ #[35, 35] 35 #[v, .slice a n cap]).run Try.prog W = .ok v' w' ∧ OB w' B v' (l ++ m) ∧ Below B W w' := by
  subst hn'
  obtain ⟨i0, hi, hz0, hz1, hz2⟩ := info_parts infoU8
  cases a with
  | none =>
    have h0 : m = [] := List.eq_nil_of_length_eq_zero (by have := hm.nil rfl; have := hm.le; omega)
    subst h0
    obtain rfl := hm.nil rfl
    refine ⟨v, W, run_append_owned_none (P := Try.prog) (w := W) B 35 35 5 i0 1 Try.underlying35 hi v l.length _ h, by simpa using h, Below.refl _ _⟩
  | some ad =>
    obtain ⟨v', w', h1, h2, h3, _⟩ := run_append_own (P := Try.prog) W B 35 35 5 i0 (.int .u8 0) 1 1 Try.underlying35 hi hz0 hz1 hz2 rfl (by decide) v l.length _ h ad m.length cap (byteCells m) (by simp [byteCells])
      (fun j u hj => by
        have hj' : j < m.length := by have := (List.getElem?_eq_some_iff.1 hj).1; simpa [byteCells] using this
        obtain ⟨b, off, e, hc⟩ := hm.row j hj'
        cases e
        rw [addr_add, hc]
        simp only [byteCells, List.getElem?_map, List.getElem?_eq_getElem hj', Option.map_some] at hj
        rw [← hj, List.getD_eq_getElem?_getD, List.getElem?_eq_getElem hj']; rfl)
      (fun u hu => by simp only [byteCells, List.mem_map] at hu; obtain ⟨z, _, rfl⟩ := hu; rfl)
      (by unfold maxLen; omega) (by omega) hB
    refine ⟨v', w', h1, ?_, (Below.refl B W).grown h3 hB (fun k hk => (h.lt k hk).1)⟩
    unfold OB
    simpa [byteCells] using h2
/-- An append whose run is known, guarded or not. -/
theorem append_text {ops : Array Oper} {rest : List Oper} {o : Oper} {a : Act} {w : World} {Q : Exit → Act → World → Prop} (hw : Region.wanted o (yielded ops a.tmps) = true) (s x : Operand)
    (ho : o.op = .call { callee := .builtin .append, args := #[s, x], argTypes := #[35, 9] }) (hty : o.type = 35) (v u v' : Value) (w' : World) (hs : a.eval s = v) (hx : a.eval x = u)
    (hr : (Builtin.append_ #[35, 9] 35 #[v, u]).run Try.prog w = .ok v' w') (h : wpList Try.prog ops Q rest (a.put o.dst v') w') : wpList Try.prog ops Q (o :: rest) a w :=
  wpList_step fun K hK => by
    rw [if_pos hw]
    unfold Oper.wp execOp
    simp only [ho, hty, resolve, invoke, builtin, Sem.run_bind, Sem.run_pure, Result.andThen_ok, List.map_toArray, List.map_cons, List.map_nil, hs, hx, hr]
    exact hK _ _ h
theorem append_bytes {ops : Array Oper} {rest : List Oper} {o : Oper} {a : Act} {w : World} {Q : Exit → Act → World → Prop} (hw : Region.wanted o (yielded ops a.tmps) = true) (s x : Operand)
    (ho : o.op = .call { callee := .builtin .append, args := #[s, x], argTypes := #[35, 35] }) (hty : o.type = 35) (v u v' : Value) (w' : World) (hs : a.eval s = v) (hx : a.eval x = u)
    (hr : (Builtin.append_ #[35, 35] 35 #[v, u]).run Try.prog w = .ok v' w') (h : wpList Try.prog ops Q rest (a.put o.dst v') w') : wpList Try.prog ops Q (o :: rest) a w :=
  wpList_step fun K hK => by
    rw [if_pos hw]
    unfold Oper.wp execOp
    simp only [ho, hty, resolve, invoke, builtin, Sem.run_bind, Sem.run_pure, Result.andThen_ok, List.map_toArray, List.map_cons, List.map_nil, hs, hx, hr]
    exact hK _ _ h
set_option maxHeartbeats 400000 in
theorem lay_any {w : World} {B : Nat} {v : Value} {l : List UInt8} (h : OB w B v l) (V : Int) (n : Nat) (v1 : -9223372036854775808 ≤ V) (v2 : V ≤ 9223372036854775807) (h1 : 1 ≤ n) (h2 : n ≤ 8) (hf : fitsB V n = true) (hl : l.length ≤ 900000000) (hB : B ≤ w.heap.size) :
    Calls Try.prog 15 #[v, .int .i64 V, .int .i64 n] w fun e w' => ∃ v', e = .returned v' ∧ OB w' B v' (l ++ putL n V) ∧ Below B w w' := by
  have HP : Hid (Calls Try.prog 21 #[.int .i64 V, .int .i64 n] w fun e w' => e = .returned (.tuple #[.string ⟨(putL n V).toArray⟩, .int .i64 0]) ∧ Below w.heap.size w w') := put_yes V n w v1 v2 h1 h2 hf
  have HO : Hid (OB w B v l) := h
  have HL := putL_len n V
  clear h hf
  generalize putL n V = p at *
  go_enter Try.func15, Try.ntmps15
  go_wp2_with fail
  refine Calls.mono HP.out ?_
  rintro e w1 ⟨rfl, hb⟩
  obtain ⟨v', w', hr, ho, hbel⟩ := (HO.out.below hb).text ⟨p.toArray⟩ (by show l.length + p.toArray.size ≤ _; rw [List.size_toArray]; omega) (Nat.le_trans hB hb.size)
  have HR : Hid (OB w' B v' (l ++ p) ∧ Below B w w') := ⟨ho, (hb.mono hB).trans hbel⟩
  have HX : Hid ((Builtin.append_ #[35, 9] 35 #[v, .string ⟨p.toArray⟩]).run Try.prog w1 = .ok v' w') := hr
  clear ho hbel hb HO HL hr
  go_wp2_with (at_builtin; go_must (refine append_text (by rfl) _ _ (by rfl) (by rfl) _ _ _ _ (by rfl) (by rfl) HX.out ?_))
  go_ret
  exact ⟨_, rfl, HR.out.1, HR.out.2⟩
set_option maxHeartbeats 400000 in
theorem equal_any {w : World} {a a2 : Option Addr} {cap cap2 : Nat} {l m : List UInt8} (h : BS w a cap l) (k : BS w a2 cap2 m) (n n2 : Nat) (hn : n = l.length) (hn2 : n2 = m.length) :
    Calls Try.prog 29 #[.slice a n cap, .slice a2 n2 cap2] w fun e w' => e = .returned (.bool (l == m)) ∧ w' = w := by
  have h1 := h.back n hn
  have h2 := k.back n2 hn2
  clear h k hn hn2
  go_enter Try.func29, Try.ntmps29
  go_wp2
  go_ret
  exact ⟨by simp, rfl⟩
set_option maxHeartbeats 400000 in
theorem hasPrefix_any {w : World} {a a2 : Option Addr} {cap cap2 : Nat} {l m : List UInt8} (h : BS w a cap l) (k : BS w a2 cap2 m) (n n2 : Nat) (hn : n = l.length) (hn2 : n2 = m.length) :
    Calls Try.prog 27 #[.slice a n cap, .slice a2 n2 cap2] w fun e w' => e = .returned (.bool (m.isPrefixOf l)) ∧ w' = w := by
  have b1 := h.le
  have b2 := h.most
  have b3 := k.le
  have b4 := k.most
  by_cases c : m.length ≤ l.length
  · have HE : Hid ((l.take m.length == m) = m.isPrefixOf l) := by
      show _ = _
      rw [Bool.eq_iff_iff, beq_iff_eq, List.isPrefixOf_iff_prefix]
      constructor
      · intro e; rw [← e]; exact List.take_prefix _ _
      · intro e; exact (List.prefix_iff_eq_take.1 e).symm
    obtain ⟨hs, h3⟩ := h.upto m.length c
    have hs := fun W => hs W n
    have HQ : Hid (Calls Try.prog 29 #[.slice a n2 cap, .slice a2 n2 cap2] w fun e w' => e = .returned (.bool (l.take m.length == m)) ∧ w' = w) := equal_any h3 k n2 n2 (by rw [List.length_take]; omega) hn2
    rw [HE.out] at HQ
    rw [← hn] at c b1
    rw [← hn2] at hs b3 c
    clear h k hn hn2 h3 HE
    go_enter Try.func27, Try.ntmps27
    go_wp2_with fail
    refine Calls.mono HQ.out ?_
    rintro e w' ⟨rfl, hw⟩
    have hw' := hw.symm; subst hw'; clear hw
    go_wp2
    go_ret
    exact ⟨rfl, rfl⟩
  · have HE : Hid (m.isPrefixOf l = false) := by
      show _ = _
      rw [Bool.eq_false_iff, ne_eq, List.isPrefixOf_iff_prefix]
      intro e; exact c e.length_le
    rw [← hn] at c b1
    rw [← hn2] at b3 c
    clear h k hn hn2
    have c' : decide ((n2 : Int) ≤ (n : Int)) = false := by simp; omega
    go_enter Try.func27, Try.ntmps27
    go_wp2
    go_ret
    exact ⟨by rw [HE.out]; rfl, rfl⟩
set_option maxHeartbeats 1000000 in
theorem checkSum_any {w : World} {a : Option Addr} {cap : Nat} {l : List UInt8} (h : BS w a cap l) (i n : Nat) (hn : n = l.length) (hi : i ≤ 900000000) (hl : l.length ≤ maxLen) :
    Calls Try.prog 23 #[.slice a n cap, .int .i64 i] w fun e w' => e = .returned (.int .i64 (sumE l i)) ∧ Below w.heap.size w w' := by
  have b1 := h.le
  have b2 := h.most
  unfold maxLen at hl
  by_cases c : l.length ≤ i
  · have HE : Hid (sumE l i = 5) := by unfold sumE; rw [if_pos c]; rfl
    rw [← hn] at c hl b1
    clear h hn
    go_enter Try.func23, Try.ntmps23
    go_wp2
    go_ret
    exact ⟨by rw [HE.out]; rfl, Below.refl _ _⟩
  · have HE : Hid (sumE l i = if (sub l i 5).isPrefixOf (sumL8 (l.take i)) then (if l.length < i + 5 then 5 else 0) else 4) := by unfold sumE; rw [if_neg c]; rfl
    by_cases c5 : i + 5 ≤ l.length
    · skip
      obtain ⟨a2, hs0, h2⟩ := h.sub i (i + 5) (by omega) (by omega)
      have hs : ∀ W, (Instr.slice 35 (.slice a n cap) (some (.int .i64 i)) (some (.int .i64 ((i : Int) + 5))) none).run Try.prog W = .ok (.slice a2 5 (cap - i)) W := fun W => by
        have := hs0 W n
        rw [show i + 5 - i = 5 by omega] at this; exact_mod_cast this
      have hml : 5 = (sub l i 5).length := by simp [sub]; omega
      have h2' : BS w a2 (cap - i) (sub l i 5) := by
        have e : sub l i ((i + 5) - i) = sub l i 5 := by unfold sub; rw [List.take_eq_take_iff, List.length_drop]; omega
        rw [e] at h2; exact h2
      obtain ⟨hu0, h3⟩ := h.upto i (by omega)
      have hu := fun W => hu0 W n
      have hcv := h3.back i (by rw [List.length_take]; omega)
      have HS : Hid (Calls Try.prog 16 #[.string ⟨(l.take i).toArray⟩] w fun e w' => e = .returned (.int .i64 (4294967295 - (crcL (l.take i) : Int))) ∧ w' = w) := by
        have := sum_any ⟨(l.take i).toArray⟩ w (by show (l.take i).toArray.size ≤ maxLen; unfold maxLen; rw [List.size_toArray, List.length_take]; omega)
        exact this
      have hcl := crcL_lt (l.take i)
      have HE2 : Hid (sumE l i = if (sub l i 5).isPrefixOf (putL 5 (4294967295 - (crcL (l.take i) : Int))) then 0 else 4) := by
        rw [HE.out, if_neg (show ¬ l.length < i + 5 by omega)]; rfl
      have HL : Hid (Calls Try.prog 15 #[.slice none 0 0, .int .i64 (4294967295 - (crcL (l.take i) : Int)), .int .i64 5] w fun e w' => ∃ v', e = .returned v' ∧ OB w' w.heap.size v' (putL 5 (4294967295 - (crcL (l.take i) : Int))) ∧ Below w.heap.size w w') := by
        exact lay_any (OB.nil w w.heap.size) _ 5 (by omega) (by omega) (by omega) (by omega) (by unfold fitsB; simp; omega) (by simp) (Nat.le_refl _)
      have H2 : Hid (BS w a2 (cap - i) (sub l i 5) ∧ 5 = (sub l i 5).length) := ⟨h2', hml⟩
      rw [← hn] at c5 c hl b1
      clear h h2 h2' h3 hs0 hu0 hn hml HE
      generalize crcL (l.take i) = C at *
      generalize l.take i = L at *
      generalize sub l i 5 = m at *
      go_enter Try.func23, Try.ntmps23
      go_wp2_with fail
      refine Calls.mono HS.out ?_
      rintro e w' ⟨rfl, hw⟩
      have hw' := hw.symm; subst hw'; clear hw
      go_wp2_with fail
      refine Calls.mono HL.out ?_
      rintro e w1 ⟨v', rfl, ho, hb⟩
      obtain ⟨a3, cap3, rfl, h4, _, _⟩ := ho.bs
      have HQ : Hid (Calls Try.prog 27 #[.slice a3 (putL 5 (4294967295 - (C : Int))).length cap3, .slice a2 5 (cap - i)] w1 fun e w' => e = .returned (.bool (m.isPrefixOf (putL 5 (4294967295 - (C : Int))))) ∧ w' = w1) :=
        hasPrefix_any h4 (H2.out.1.below hb (Nat.le_refl _)) _ _ rfl H2.out.2
      have HB : Hid (Below w.heap.size w w1) := hb
      clear ho hb h4 H2 HL HS
      generalize (putL 5 (4294967295 - (C : Int))) = P5 at *
      go_wp2_with fail
      refine Calls.mono HQ.out ?_
      rintro e w' ⟨rfl, hw⟩
      have hw' := hw.symm; subst hw'; clear hw HQ
      cases hp : m.isPrefixOf P5 with
      | true =>
        rw [hp, if_pos rfl] at HE2
        clear hp
        go_wp2
        go_ret
        exact ⟨by rw [HE2.out]; rfl, HB.out⟩
      | false =>
        rw [hp, if_neg (by simp)] at HE2
        clear hp
        go_wp2
        go_ret
        exact ⟨by rw [HE2.out]; rfl, HB.out⟩
    · skip
      obtain ⟨a2, hs0, h2⟩ := h.sub i l.length (by omega) (by omega)
      have hs : ∀ W, (Instr.slice 35 (.slice a n cap) (some (.int .i64 i)) (some (.int .i64 n)) none).run Try.prog W = .ok (.slice a2 (n - i) (cap - i)) W := fun W => by
        have := hs0 W n
        rw [← hn] at this; exact this
      have hml : (n - i) = (sub l i 5).length := by simp [sub]; omega
      have h2' : BS w a2 (cap - i) (sub l i 5) := by
        have e : sub l i (l.length - i) = sub l i 5 := by unfold sub; rw [List.take_eq_take_iff, List.length_drop]; omega
        rw [e] at h2; exact h2
      obtain ⟨hu0, h3⟩ := h.upto i (by omega)
      have hu := fun W => hu0 W n
      have hcv := h3.back i (by rw [List.length_take]; omega)
      have HS : Hid (Calls Try.prog 16 #[.string ⟨(l.take i).toArray⟩] w fun e w' => e = .returned (.int .i64 (4294967295 - (crcL (l.take i) : Int))) ∧ w' = w) := by
        have := sum_any ⟨(l.take i).toArray⟩ w (by show (l.take i).toArray.size ≤ maxLen; unfold maxLen; rw [List.size_toArray, List.length_take]; omega)
        exact this
      have hcl := crcL_lt (l.take i)
      have HE2 : Hid (sumE l i = if (sub l i 5).isPrefixOf (putL 5 (4294967295 - (crcL (l.take i) : Int))) then 5 else 4) := by
        rw [HE.out, if_pos (show l.length < i + 5 by omega)]; rfl
      have HL : Hid (Calls Try.prog 15 #[.slice none 0 0, .int .i64 (4294967295 - (crcL (l.take i) : Int)), .int .i64 5] w fun e w' => ∃ v', e = .returned v' ∧ OB w' w.heap.size v' (putL 5 (4294967295 - (crcL (l.take i) : Int))) ∧ Below w.heap.size w w') := by
        exact lay_any (OB.nil w w.heap.size) _ 5 (by omega) (by omega) (by omega) (by omega) (by unfold fitsB; simp; omega) (by simp) (Nat.le_refl _)
      have H2 : Hid (BS w a2 (cap - i) (sub l i 5) ∧ (n - i) = (sub l i 5).length) := ⟨h2', hml⟩
      rw [← hn] at c5 c hl b1
      clear h h2 h2' h3 hs0 hu0 hn hml HE
      generalize crcL (l.take i) = C at *
      generalize l.take i = L at *
      generalize sub l i 5 = m at *
      go_enter Try.func23, Try.ntmps23
      go_wp2_with fail
      refine Calls.mono HS.out ?_
      rintro e w' ⟨rfl, hw⟩
      have hw' := hw.symm; subst hw'; clear hw
      go_wp2_with fail
      refine Calls.mono HL.out ?_
      rintro e w1 ⟨v', rfl, ho, hb⟩
      obtain ⟨a3, cap3, rfl, h4, _, _⟩ := ho.bs
      have HQ : Hid (Calls Try.prog 27 #[.slice a3 (putL 5 (4294967295 - (C : Int))).length cap3, .slice a2 (n - i) (cap - i)] w1 fun e w' => e = .returned (.bool (m.isPrefixOf (putL 5 (4294967295 - (C : Int))))) ∧ w' = w1) :=
        hasPrefix_any h4 (H2.out.1.below hb (Nat.le_refl _)) _ _ rfl H2.out.2
      have HB : Hid (Below w.heap.size w w1) := hb
      clear ho hb h4 H2 HL HS
      generalize (putL 5 (4294967295 - (C : Int))) = P5 at *
      go_wp2_with fail
      refine Calls.mono HQ.out ?_
      rintro e w' ⟨rfl, hw⟩
      have hw' := hw.symm; subst hw'; clear hw HQ
      cases hp : m.isPrefixOf P5 with
      | true =>
        rw [hp, if_pos rfl] at HE2
        clear hp
        go_wp2
        go_ret
        exact ⟨by rw [HE2.out]; rfl, HB.out⟩
      | false =>
        rw [hp, if_neg (by simp)] at HE2
        clear hp
        go_wp2
        go_ret
        exact ⟨by rw [HE2.out]; rfl, HB.out⟩
end Go.Proofs.Ytglkoedmonenoaa
