/- RingPlays: the region of 'm := append(append([]int(nil), l[i].L...), -77)[:len(l[i].L)]', in whatever order. -/
import Derived.Test.YtgdijnmanhglnaaRgPlaysF
namespace Go.Proofs.Ytgdijnmanhglnaa
open Go.RowKit
set_option linter.unusedVariables false
set_option maxRecDepth 100000

/-- 's[:h]' of a row of the law's own. -/
theorem slice_to (g len cap h : Nat) (hh : h ≤ cap) : ∀ W, (Instr.slice 32 (.slice (some ⟨g, 0, none⟩) len cap) none (some (.int .i64 h)) none).run Try.prog W = .ok (.slice (some ⟨g, 0, none⟩) h cap) W := fun W => by
  rw [run_slice_h W 32 _ len cap (by kernel_rfl) .i64 h (by omega) (by omega), size_int]
  show Result.ok (sliced (some ⟨g, 0, none⟩) 0 h cap 1) W = _
  unfold sliced
  simp [Addr.add]
@[reducible] def playOps : Array Oper := #[{ dst := some 120, op := Op.move (Operand.tmp 1), type := 22, pos := "law.go:60", after := #[], guard := none }, { dst := some 121, op := Op.move (Operand.tmp 11), type := 3, pos := "law.go:60", after := #[], guard := none }, { dst := some 122, op := Op.indexAddr 22 (Operand.tmp 120) (Operand.tmp 121), type := 0, pos := "law.go:60", after := #[{ on := 0, ground := Ground.data }, { on := 1, ground := Ground.data }], guard := none }, { dst := some 123, op := Op.fieldAddr 36 (Operand.tmp 122) 2, type := 0, pos := "law.go:60", after := #[{ on := 2, ground := Ground.data }], guard := none }, { dst := some 124, op := Op.load 32 (Operand.tmp 123), type := 32, pos := "law.go:60", after := #[{ on := 3, ground := Ground.data }], guard := none }, { dst := some 125, op := Op.call { callee := Callee.builtin Builtin.append, args := #[Operand.const (Value.slice none 0 0), Operand.tmp 124], argTypes := #[32, 32] }, type := 32, pos := "law.go:60", after := #[{ on := 4, ground := Ground.data }], guard := none }, { dst := some 126, op := Op.buildSlice 32 1 #[(0, Operand.const (Value.int IntKind.i64 (-77)))], type := 32, pos := "law.go:60", after := #[], guard := none }, { dst := some 127, op := Op.call { callee := Callee.builtin Builtin.append, args := #[Operand.tmp 125, Operand.tmp 126], argTypes := #[32, 32] }, type := 32, pos := "law.go:60", after := #[{ on := 5, ground := Ground.data }, { on := 6, ground := Ground.data }, { on := 5, ground := Ground.chain }], guard := none }, { dst := some 128, op := Op.move (Operand.tmp 1), type := 22, pos := "law.go:60", after := #[], guard := none }, { dst := some 129, op := Op.move (Operand.tmp 11), type := 3, pos := "law.go:60", after := #[], guard := none }, { dst := some 130, op := Op.indexAddr 22 (Operand.tmp 128) (Operand.tmp 129), type := 0, pos := "law.go:60", after := #[{ on := 8, ground := Ground.data }, { on := 9, ground := Ground.data }], guard := none }, { dst := some 131, op := Op.fieldAddr 36 (Operand.tmp 130) 2, type := 0, pos := "law.go:60", after := #[{ on := 10, ground := Ground.data }], guard := none }, { dst := some 132, op := Op.load 32 (Operand.tmp 131), type := 32, pos := "law.go:60", after := #[{ on := 11, ground := Ground.data }], guard := none }, { dst := some 133, op := Op.call { callee := Callee.builtin Builtin.len, args := #[Operand.tmp 132], argTypes := #[32] }, type := 3, pos := "law.go:60", after := #[{ on := 12, ground := Ground.data }], guard := none }, { dst := some 134, op := Op.slice 32 (Operand.tmp 127) none (some (Operand.tmp 133)) none, type := 32, pos := "law.go:60", after := #[{ on := 7, ground := Ground.data }, { on := 13, ground := Ground.data }], guard := none }, { dst := some 12, op := Op.assign (Operand.tmp 134), type := 32, pos := "law.go:60", after := #[{ on := 14, ground := Ground.data }, { on := 7, ground := Ground.chain }, { on := 0, ground := Ground.phase }, { on := 1, ground := Ground.phase }, { on := 2, ground := Ground.phase }, { on := 3, ground := Ground.phase }, { on := 4, ground := Ground.phase }, { on := 5, ground := Ground.phase }, { on := 6, ground := Ground.phase }, { on := 7, ground := Ground.phase }, { on := 8, ground := Ground.phase }, { on := 9, ground := Ground.phase }, { on := 10, ground := Ground.phase }, { on := 11, ground := Ground.phase }, { on := 12, ground := Ground.phase }, { on := 13, ground := Ground.phase }, { on := 14, ground := Ground.phase }], guard := none }]
set_option maxHeartbeats 16000000 in
theorem play_tail (W : World) (k m c' b' off ol oc : Nat) (oa : Option Addr) (L : List Int) (t0 t2 t3 t4 t5 t6 t7 t8 t9 t10 t12 t13 t14 t15 t16 t17 t18 t19 t20 t21 t22 t23 t24 t25 t26 t27 t28 t29 t30 t31 t32 t33 t34 t35 t36 t37 t38 t39 t40 t41 t42 t43 t44 t45 t46 t47 t48 t49 t50 t51 t52 t53 t54 t55 t56 t57 t58 t59 t60 t61 t62 t63 t64 t65 t66 t67 t68 t69 t70 t71 t72 t73 t74 t75 t76 t77 t78 t79 t80 t81 t82 t83 t84 t85 t86 t87 t88 t89 t90 t91 t92 t93 t94 t95 t96 t97 t98 t99 t100 t101 t102 t103 t104 t105 t106 t107 t108 t109 t110 t111 t112 t113 t114 t115 t116 t117 t118 t119 t120 t121 t122 t123 t124 t125 t126 t127 t128 t129 t130 t131 t132 t133 t134 t135 t136 t137 t138 t139 t140 t141 t142 t143 t144 t145 t146 t147 t148 t149 t150 t151 t152 t153 t154 t155 t156 t157 t158 t159 t160 t161 t162 t163 t164 t165 t166 t167 t168 t169 t170 t171 t172 t173 t174 t175 t176 t177 t178 t179 t180 t181 t182 t183 t184 t185 t186 t187 t188 t189 t190 t191 t192 t193 t194 t195 t196 t197 t198 t199 t200 t201 t202 t203 t204 t205 t206 t207 t208 t209 t210 t211 t212 t213 t214 t215 t216 t217 t218 t219 t220 t221 t222 t223 t224 t225 t226 t227 t228 t229 t230 t231 t232 t233 t234 t235 t236 t237 t238 t239 t240 t241 t242 t243 t244 t245 t246 t247 t248 t249 t250 t251 t252 t253 t254 t255 t256 t257 t258 t259 t260 t261 t262 t263 t264 t265 t266 t267 t268 t269 t270 t271 t272 t273 t274 t275 t276 t277 t278 t279 t280 t281 t282 t283 t284 t285 t286 t287 t288 t289 t290 t291 t292 t293 t294 t295 t296 t297 t298 t299 t300 t301 t302 t303 t304 t305 t306 t307 t308 t309 t310 t311 t312 t313 t314 t315 t316 t317 t318 t319 t320 t321 t322 t323 t324 t325 t326 t327 t328 t329 t330 t331 : Value) (Q : Exit → Act → World → Prop) (hx : W.cell? ⟨b', off + k * 3 + 2, none⟩ = some (.slice oa ol oc)) (hR : IntRow W oa L) (hN : oa = none → oc = 0) (hLen : L.length = ol) (hkm : k < m) (hm : m ≤ 200) (hl : ol ≤ 100)
    (hp : ∀ c a (dd : Option Tmp) vv w, Q (.panic c) (a.put dd vv) w → Q (.panic c) a w)
    (hfin : ∀ (X : World) (g3 cap3 : Nat) (hB : Below W.heap.size W X) (hrow : IntRow X (some ⟨g3, 0, none⟩) (L ++ [-77])) (hg : W.heap.size ≤ g3) (hc : ol + 1 ≤ cap3) (hf : ∀ i, X.frozen? ⟨g3, i, none⟩ = false) (v1 vq : Value), Q .normal { tmps := #[t0, Value.slice (some ⟨b', off, none⟩) m c', t2, t3, t4, t5, t6, t7, t8, t9, t10, Value.int .i64 k, Value.slice (some ⟨g3, 0, none⟩) ol cap3, t13, t14, t15, t16, t17, t18, t19, t20, t21, t22, t23, t24, t25, t26, t27, t28, t29, t30, t31, t32, t33, t34, t35, t36, t37, t38, t39, t40, t41, t42, t43, t44, t45, t46, t47, t48, t49, t50, t51, t52, t53, t54, t55, t56, t57, t58, t59, t60, t61, t62, t63, t64, t65, t66, t67, t68, t69, t70, t71, t72, t73, t74, t75, t76, t77, t78, t79, t80, t81, t82, t83, t84, t85, t86, t87, t88, t89, t90, t91, t92, t93, t94, t95, t96, t97, t98, t99, t100, t101, t102, t103, t104, t105, t106, t107, t108, t109, t110, t111, t112, t113, t114, t115, t116, t117, t118, t119, Value.slice (some ⟨b', off, none⟩) m c', Value.int .i64 k, Value.pointer (some ⟨b', off + k * 3, none⟩), Value.pointer (some ⟨b', off + k * 3 + 2, none⟩), Value.slice oa ol oc, v1, vq, Value.slice (some ⟨g3, 0, none⟩) (ol + 1) cap3, Value.slice (some ⟨b', off, none⟩) m c', Value.int .i64 k, Value.pointer (some ⟨b', off + k * 3, none⟩), Value.pointer (some ⟨b', off + k * 3 + 2, none⟩), Value.slice oa ol oc, Value.int .i64 ol, Value.slice (some ⟨g3, 0, none⟩) ol cap3, t135, t136, t137, t138, t139, t140, t141, t142, t143, t144, t145, t146, t147, t148, t149, t150, t151, t152, t153, t154, t155, t156, t157, t158, t159, t160, t161, t162, t163, t164, t165, t166, t167, t168, t169, t170, t171, t172, t173, t174, t175, t176, t177, t178, t179, t180, t181, t182, t183, t184, t185, t186, t187, t188, t189, t190, t191, t192, t193, t194, t195, t196, t197, t198, t199, t200, t201, t202, t203, t204, t205, t206, t207, t208, t209, t210, t211, t212, t213, t214, t215, t216, t217, t218, t219, t220, t221, t222, t223, t224, t225, t226, t227, t228, t229, t230, t231, t232, t233, t234, t235, t236, t237, t238, t239, t240, t241, t242, t243, t244, t245, t246, t247, t248, t249, t250, t251, t252, t253, t254, t255, t256, t257, t258, t259, t260, t261, t262, t263, t264, t265, t266, t267, t268, t269, t270, t271, t272, t273, t274, t275, t276, t277, t278, t279, t280, t281, t282, t283, t284, t285, t286, t287, t288, t289, t290, t291, t292, t293, t294, t295, t296, t297, t298, t299, t300, t301, t302, t303, t304, t305, t306, t307, t308, t309, t310, t311, t312, t313, t314, t315, t316, t317, t318, t319, t320, t321, t322, t323, t324, t325, t326, t327, t328, t329, t330, t331], defers := [] } X) :
    Code.wp Try.prog (Code.region 22 playOps true) Q { tmps := #[t0, Value.slice (some ⟨b', off, none⟩) m c', t2, t3, t4, t5, t6, t7, t8, t9, t10, Value.int .i64 k, t12, t13, t14, t15, t16, t17, t18, t19, t20, t21, t22, t23, t24, t25, t26, t27, t28, t29, t30, t31, t32, t33, t34, t35, t36, t37, t38, t39, t40, t41, t42, t43, t44, t45, t46, t47, t48, t49, t50, t51, t52, t53, t54, t55, t56, t57, t58, t59, t60, t61, t62, t63, t64, t65, t66, t67, t68, t69, t70, t71, t72, t73, t74, t75, t76, t77, t78, t79, t80, t81, t82, t83, t84, t85, t86, t87, t88, t89, t90, t91, t92, t93, t94, t95, t96, t97, t98, t99, t100, t101, t102, t103, t104, t105, t106, t107, t108, t109, t110, t111, t112, t113, t114, t115, t116, t117, t118, t119, t120, t121, t122, t123, t124, t125, t126, t127, t128, t129, t130, t131, t132, t133, t134, t135, t136, t137, t138, t139, t140, t141, t142, t143, t144, t145, t146, t147, t148, t149, t150, t151, t152, t153, t154, t155, t156, t157, t158, t159, t160, t161, t162, t163, t164, t165, t166, t167, t168, t169, t170, t171, t172, t173, t174, t175, t176, t177, t178, t179, t180, t181, t182, t183, t184, t185, t186, t187, t188, t189, t190, t191, t192, t193, t194, t195, t196, t197, t198, t199, t200, t201, t202, t203, t204, t205, t206, t207, t208, t209, t210, t211, t212, t213, t214, t215, t216, t217, t218, t219, t220, t221, t222, t223, t224, t225, t226, t227, t228, t229, t230, t231, t232, t233, t234, t235, t236, t237, t238, t239, t240, t241, t242, t243, t244, t245, t246, t247, t248, t249, t250, t251, t252, t253, t254, t255, t256, t257, t258, t259, t260, t261, t262, t263, t264, t265, t266, t267, t268, t269, t270, t271, t272, t273, t274, t275, t276, t277, t278, t279, t280, t281, t282, t283, t284, t285, t286, t287, t288, t289, t290, t291, t292, t293, t294, t295, t296, t297, t298, t299, t300, t301, t302, t303, t304, t305, t306, t307, t308, t309, t310, t311, t312, t313, t314, t315, t316, t317, t318, t319, t320, t321, t322, t323, t324, t325, t326, t327, t328, t329, t330, t331], defers := [] } W := by
  obtain ⟨W0, hW0⟩ : ∃ Z, W.drew = Z := ⟨_, rfl⟩
  have hsz : W0.heap.size = W.heap.size := by rw [← hW0]; rfl
  have D0 : Below W.heap.size W W0 := by rw [← hW0]; exact (Below.refl _ _).drew
  have hRow : ∀ X, Below W0.heap.size W0 X → IntRow X oa L := fun X h => (hR.below D0).below h
  have hSel : ∀ X, Below W0.heap.size W0 X → X.cell? ⟨b', off + k * 3 + 2, none⟩ = some (.slice oa ol oc) := fun X h => (Mod.of_below (S := []) h).cell ((Mod.of_below (S := []) D0).cell hx (by simp)) (by simp)
  have hfin : ∀ (X : World) (g3 cap3 : Nat) (hB : Below W0.heap.size W0 X) (hrow : IntRow X (some ⟨g3, 0, none⟩) (L ++ [-77])) (hg : W0.heap.size ≤ g3) (hc : ol + 1 ≤ cap3) (hf : ∀ i, X.frozen? ⟨g3, i, none⟩ = false) (v1 vq : Value), Q .normal { tmps := #[t0, Value.slice (some ⟨b', off, none⟩) m c', t2, t3, t4, t5, t6, t7, t8, t9, t10, Value.int .i64 k, Value.slice (some ⟨g3, 0, none⟩) ol cap3, t13, t14, t15, t16, t17, t18, t19, t20, t21, t22, t23, t24, t25, t26, t27, t28, t29, t30, t31, t32, t33, t34, t35, t36, t37, t38, t39, t40, t41, t42, t43, t44, t45, t46, t47, t48, t49, t50, t51, t52, t53, t54, t55, t56, t57, t58, t59, t60, t61, t62, t63, t64, t65, t66, t67, t68, t69, t70, t71, t72, t73, t74, t75, t76, t77, t78, t79, t80, t81, t82, t83, t84, t85, t86, t87, t88, t89, t90, t91, t92, t93, t94, t95, t96, t97, t98, t99, t100, t101, t102, t103, t104, t105, t106, t107, t108, t109, t110, t111, t112, t113, t114, t115, t116, t117, t118, t119, Value.slice (some ⟨b', off, none⟩) m c', Value.int .i64 k, Value.pointer (some ⟨b', off + k * 3, none⟩), Value.pointer (some ⟨b', off + k * 3 + 2, none⟩), Value.slice oa ol oc, v1, vq, Value.slice (some ⟨g3, 0, none⟩) (ol + 1) cap3, Value.slice (some ⟨b', off, none⟩) m c', Value.int .i64 k, Value.pointer (some ⟨b', off + k * 3, none⟩), Value.pointer (some ⟨b', off + k * 3 + 2, none⟩), Value.slice oa ol oc, Value.int .i64 ol, Value.slice (some ⟨g3, 0, none⟩) ol cap3, t135, t136, t137, t138, t139, t140, t141, t142, t143, t144, t145, t146, t147, t148, t149, t150, t151, t152, t153, t154, t155, t156, t157, t158, t159, t160, t161, t162, t163, t164, t165, t166, t167, t168, t169, t170, t171, t172, t173, t174, t175, t176, t177, t178, t179, t180, t181, t182, t183, t184, t185, t186, t187, t188, t189, t190, t191, t192, t193, t194, t195, t196, t197, t198, t199, t200, t201, t202, t203, t204, t205, t206, t207, t208, t209, t210, t211, t212, t213, t214, t215, t216, t217, t218, t219, t220, t221, t222, t223, t224, t225, t226, t227, t228, t229, t230, t231, t232, t233, t234, t235, t236, t237, t238, t239, t240, t241, t242, t243, t244, t245, t246, t247, t248, t249, t250, t251, t252, t253, t254, t255, t256, t257, t258, t259, t260, t261, t262, t263, t264, t265, t266, t267, t268, t269, t270, t271, t272, t273, t274, t275, t276, t277, t278, t279, t280, t281, t282, t283, t284, t285, t286, t287, t288, t289, t290, t291, t292, t293, t294, t295, t296, t297, t298, t299, t300, t301, t302, t303, t304, t305, t306, t307, t308, t309, t310, t311, t312, t313, t314, t315, t316, t317, t318, t319, t320, t321, t322, t323, t324, t325, t326, t327, t328, t329, t330, t331], defers := [] } X := fun X g3 cap3 h1 h2 h3 h4 h5 v1 vq => hfin X g3 cap3 (D0.trans (by rw [hsz] at h1; exact h1)) h2 (by omega) h4 h5 v1 vq
  have B0 : Below W0.heap.size W0 W0 := Below.refl _ _
  have HLen : Hid (L.length = ol) := hLen
  refine wp_region_held_drew (S := fun X : World => X.cell? ⟨b', off + k * 3 + 2, none⟩ = some (.slice oa ol oc)) (by kernel_rfl) (by rw [hW0]; exact hSel _ B0) (fun hHeld => ?_)
  rw [hW0] at hHeld ⊢
  clear hW0 hR hx D0 hsz
  refine wpAnyH_take (i := 0) (oi := { dst := some 120, op := Op.move (Operand.tmp 1), type := 22, pos := "law.go:60", after := #[], guard := none }) (v := ?_) rfl (by kernel_rfl) (by kernel_rfl) (by kernel_rfl) (fun c a w h => hp c _ _ _ w h) (Or.inl ⟨by rfl, ?_⟩) hHeld ?_
  rotate_left
  · (intro w hSw; (try dsimp only at hSw); go_simp; all_goals (try with_reducible rfl))
  try simp only [Act.put, List.setIfInBounds_toArray, List.set_cons_zero, List.set_cons_succ]
  refine wpAnyH_take (i := 1) (oi := { dst := some 121, op := Op.move (Operand.tmp 11), type := 3, pos := "law.go:60", after := #[], guard := none }) (v := ?_) rfl (by kernel_rfl) (by kernel_rfl) (by kernel_rfl) (fun c a w h => hp c _ _ _ w h) (Or.inl ⟨by rfl, ?_⟩) hHeld ?_
  rotate_left
  · (intro w hSw; (try dsimp only at hSw); go_simp; all_goals (try with_reducible rfl))
  try simp only [Act.put, List.setIfInBounds_toArray, List.set_cons_zero, List.set_cons_succ]
  refine wpAnyH_take (i := 2) (oi := { dst := some 122, op := Op.indexAddr 22 (Operand.tmp 120) (Operand.tmp 121), type := 0, pos := "law.go:60", after := #[{ on := 0, ground := Ground.data }, { on := 1, ground := Ground.data }], guard := none }) (v := ?_) rfl (by kernel_rfl) (by kernel_rfl) (by kernel_rfl) (fun c a w h => hp c _ _ _ w h) (Or.inl ⟨by rfl, ?_⟩) hHeld ?_
  rotate_left
  · (intro w hSw; (try dsimp only at hSw); go_simp; all_goals (try with_reducible rfl))
  try simp only [Act.put, List.setIfInBounds_toArray, List.set_cons_zero, List.set_cons_succ]
  refine wpAnyH_take (i := 3) (oi := { dst := some 123, op := Op.fieldAddr 36 (Operand.tmp 122) 2, type := 0, pos := "law.go:60", after := #[{ on := 2, ground := Ground.data }], guard := none }) (v := ?_) rfl (by kernel_rfl) (by kernel_rfl) (by kernel_rfl) (fun c a w h => hp c _ _ _ w h) (Or.inl ⟨by rfl, ?_⟩) hHeld ?_
  rotate_left
  · (intro w hSw; (try dsimp only at hSw); go_simp; all_goals (try with_reducible rfl))
  try simp only [Act.put, List.setIfInBounds_toArray, List.set_cons_zero, List.set_cons_succ]
  refine wpAnyH_take (i := 4) (oi := { dst := some 124, op := Op.load 32 (Operand.tmp 123), type := 32, pos := "law.go:60", after := #[{ on := 3, ground := Ground.data }], guard := none }) (v := ?_) rfl (by kernel_rfl) (by kernel_rfl) (by kernel_rfl) (fun c a w h => hp c _ _ _ w h) (Or.inl ⟨by rfl, ?_⟩) hHeld ?_
  rotate_left
  · (intro w hSw; (try dsimp only at hSw); go_simp; all_goals (try with_reducible rfl))
  try simp only [Act.put, List.setIfInBounds_toArray, List.set_cons_zero, List.set_cons_succ]
  refine wpAnyH_take (i := 8) (oi := { dst := some 128, op := Op.move (Operand.tmp 1), type := 22, pos := "law.go:60", after := #[], guard := none }) (v := ?_) rfl (by kernel_rfl) (by kernel_rfl) (by kernel_rfl) (fun c a w h => hp c _ _ _ w h) (Or.inl ⟨by rfl, ?_⟩) hHeld ?_
  rotate_left
  · (intro w hSw; (try dsimp only at hSw); go_simp; all_goals (try with_reducible rfl))
  try simp only [Act.put, List.setIfInBounds_toArray, List.set_cons_zero, List.set_cons_succ]
  refine wpAnyH_take (i := 9) (oi := { dst := some 129, op := Op.move (Operand.tmp 11), type := 3, pos := "law.go:60", after := #[], guard := none }) (v := ?_) rfl (by kernel_rfl) (by kernel_rfl) (by kernel_rfl) (fun c a w h => hp c _ _ _ w h) (Or.inl ⟨by rfl, ?_⟩) hHeld ?_
  rotate_left
  · (intro w hSw; (try dsimp only at hSw); go_simp; all_goals (try with_reducible rfl))
  try simp only [Act.put, List.setIfInBounds_toArray, List.set_cons_zero, List.set_cons_succ]
  refine wpAnyH_take (i := 10) (oi := { dst := some 130, op := Op.indexAddr 22 (Operand.tmp 128) (Operand.tmp 129), type := 0, pos := "law.go:60", after := #[{ on := 8, ground := Ground.data }, { on := 9, ground := Ground.data }], guard := none }) (v := ?_) rfl (by kernel_rfl) (by kernel_rfl) (by kernel_rfl) (fun c a w h => hp c _ _ _ w h) (Or.inl ⟨by rfl, ?_⟩) hHeld ?_
  rotate_left
  · (intro w hSw; (try dsimp only at hSw); go_simp; all_goals (try with_reducible rfl))
  try simp only [Act.put, List.setIfInBounds_toArray, List.set_cons_zero, List.set_cons_succ]
  refine wpAnyH_take (i := 11) (oi := { dst := some 131, op := Op.fieldAddr 36 (Operand.tmp 130) 2, type := 0, pos := "law.go:60", after := #[{ on := 10, ground := Ground.data }], guard := none }) (v := ?_) rfl (by kernel_rfl) (by kernel_rfl) (by kernel_rfl) (fun c a w h => hp c _ _ _ w h) (Or.inl ⟨by rfl, ?_⟩) hHeld ?_
  rotate_left
  · (intro w hSw; (try dsimp only at hSw); go_simp; all_goals (try with_reducible rfl))
  try simp only [Act.put, List.setIfInBounds_toArray, List.set_cons_zero, List.set_cons_succ]
  refine wpAnyH_take (i := 12) (oi := { dst := some 132, op := Op.load 32 (Operand.tmp 131), type := 32, pos := "law.go:60", after := #[{ on := 11, ground := Ground.data }], guard := none }) (v := ?_) rfl (by kernel_rfl) (by kernel_rfl) (by kernel_rfl) (fun c a w h => hp c _ _ _ w h) (Or.inl ⟨by rfl, ?_⟩) hHeld ?_
  rotate_left
  · (intro w hSw; (try dsimp only at hSw); go_simp; all_goals (try with_reducible rfl))
  try simp only [Act.put, List.setIfInBounds_toArray, List.set_cons_zero, List.set_cons_succ]
  refine wpAnyH_take (i := 13) (oi := { dst := some 133, op := Op.call { callee := Callee.builtin Builtin.len, args := #[Operand.tmp 132], argTypes := #[32] }, type := 3, pos := "law.go:60", after := #[{ on := 12, ground := Ground.data }], guard := none }) (v := ?_) rfl (by kernel_rfl) (by kernel_rfl) (by kernel_rfl) (fun c a w h => hp c _ _ _ w h) (Or.inl ⟨by rfl, ?_⟩) hHeld ?_
  rotate_left
  · (intro w hSw; (try dsimp only at hSw); go_simp; all_goals (try with_reducible rfl))
  try simp only [Act.put, List.setIfInBounds_toArray, List.set_cons_zero, List.set_cons_succ]
  refine wpAnyH_ready (rs := [5, 6]) (by kernel_rfl) (by simp) ?_
  refine AllReadyH.cons (o := { dst := some 125, op := Op.call { callee := Callee.builtin Builtin.append, args := #[Operand.const (Value.slice none 0 0), Operand.tmp 124], argTypes := #[32, 32] }, type := 32, pos := "law.go:60", after := #[{ on := 4, ground := Ground.data }], guard := none }) rfl (fun K hK => ?_) ?_
  · obtain ⟨v1, X1, hr1, ho1, hb1⟩ := app_nil W0 W0.heap.size oa L oc hN (hRow _ B0) (by omega) (Nat.le_refl _)
    rw [hLen] at hr1
    refine append_step (by rfl) _ _ (by rfl) (by rfl) _ _ _ _ (by rfl) (by rfl) hr1 ?_
    have B1 := B0.trans (hb1.mono B0.size)
    clear hr1
    refine hK.out _ _ (hSel _ B1) (fun hHeld => ?_)
    clear hK K
    try simp only [Act.put, List.setIfInBounds_toArray, List.set_cons_zero, List.set_cons_succ]
    refine wpAnyH_ready (rs := [6]) (by kernel_rfl) (by simp) ?_
    refine AllReadyH.cons (o := { dst := some 126, op := Op.buildSlice 32 1 #[(0, Operand.const (Value.int IntKind.i64 (-77)))], type := 32, pos := "law.go:60", after := #[], guard := none }) rfl (fun K hK => ?_) AllReadyH.nil
    go_simp
    obtain ⟨X2, hX⟩ : ∃ Z, X1.alloc (.cells #[.int .i64 (-77)] 3) = Z := ⟨_, rfl⟩
    rw [hX]
    have hbx : Below X1.heap.size X1 X2 := by rw [← hX]; exact (Below.refl _ _).alloc (Nat.le_refl _) _
    have R2 : IntRow X2 (some ⟨X1.heap.size, 0, none⟩) [-77] := by rw [← hX]; exact row_lit _ [-77] _ _ rfl
    have B2 := B1.trans (hbx.mono B1.size)
    have ho2 := owns_below ho1 hbx
    clear hX
    refine hK.out _ _ (hSel _ B2) (fun hHeld => ?_)
    clear hK K
    try simp only [Act.put, List.setIfInBounds_toArray, List.set_cons_zero, List.set_cons_succ]
    refine wpAnyH_ready (rs := [7]) (by kernel_rfl) (by simp) ?_
    refine AllReadyH.cons (o := { dst := some 127, op := Op.call { callee := Callee.builtin Builtin.append, args := #[Operand.tmp 125, Operand.tmp 126], argTypes := #[32, 32] }, type := 32, pos := "law.go:60", after := #[{ on := 5, ground := Ground.data }, { on := 6, ground := Ground.data }, { on := 5, ground := Ground.chain }], guard := none }) rfl (fun K hK => ?_) AllReadyH.nil
    have z1 := hb1.size
    have z2 := hbx.size
    have z3 := B2.size
    obtain ⟨g3, cap3, X3, hr3, hg3, hrow3, hb3, hc3, hf3⟩ := app_last X2 _ v1 L (-77) _ ho2 R2 (by omega) (by omega)
    rw [hLen] at hr3 hc3
    refine append_step (by rfl) _ _ (by rfl) (by rfl) _ _ _ _ (by rfl) (by rfl) hr3 ?_
    have hg4 : W0.heap.size ≤ g3 := by have := B1.size; omega
    have B3 : Below W0.heap.size W0 X3 := B2.trans (hb3.mono (by have := B1.size; omega))
    have hsl := slice_to g3 (ol + 1) cap3 ol (by omega)
    clear hr3
    refine hK.out _ _ (hSel _ B3) (fun hHeld => ?_)
    clear hK K
    try simp only [Act.put, List.setIfInBounds_toArray, List.set_cons_zero, List.set_cons_succ]
    refine wpAnyH_take (i := 14) (oi := { dst := some 134, op := Op.slice 32 (Operand.tmp 127) none (some (Operand.tmp 133)) none, type := 32, pos := "law.go:60", after := #[{ on := 7, ground := Ground.data }, { on := 13, ground := Ground.data }], guard := none }) (v := ?_) rfl (by kernel_rfl) (by kernel_rfl) (by kernel_rfl) (fun c a w h => hp c _ _ _ w h) (Or.inl ⟨by rfl, ?_⟩) hHeld ?_
    rotate_left
    · (intro w hSw; (try dsimp only at hSw); go_simp; all_goals (try with_reducible rfl))
    try simp only [Act.put, List.setIfInBounds_toArray, List.set_cons_zero, List.set_cons_succ]
    refine wpAnyH_take (i := 15) (oi := { dst := some 12, op := Op.assign (Operand.tmp 134), type := 32, pos := "law.go:60", after := #[{ on := 14, ground := Ground.data }, { on := 7, ground := Ground.chain }, { on := 0, ground := Ground.phase }, { on := 1, ground := Ground.phase }, { on := 2, ground := Ground.phase }, { on := 3, ground := Ground.phase }, { on := 4, ground := Ground.phase }, { on := 5, ground := Ground.phase }, { on := 6, ground := Ground.phase }, { on := 7, ground := Ground.phase }, { on := 8, ground := Ground.phase }, { on := 9, ground := Ground.phase }, { on := 10, ground := Ground.phase }, { on := 11, ground := Ground.phase }, { on := 12, ground := Ground.phase }, { on := 13, ground := Ground.phase }, { on := 14, ground := Ground.phase }], guard := none }) (v := ?_) rfl (by kernel_rfl) (by kernel_rfl) (by kernel_rfl) (fun c a w h => hp c _ _ _ w h) (Or.inl ⟨by rfl, ?_⟩) hHeld ?_
    rotate_left
    · (intro w hSw; (try dsimp only at hSw); go_simp; all_goals (try with_reducible rfl))
    try simp only [Act.put, List.setIfInBounds_toArray, List.set_cons_zero, List.set_cons_succ]
    refine wpAnyH_done (by kernel_rfl) ?_ _
    exact hfin _ g3 cap3 B3 hrow3 hg4 hc3 hf3 v1 _
  refine AllReadyH.cons (o := { dst := some 126, op := Op.buildSlice 32 1 #[(0, Operand.const (Value.int IntKind.i64 (-77)))], type := 32, pos := "law.go:60", after := #[], guard := none }) rfl (fun K hK => ?_) AllReadyH.nil
  go_simp
  obtain ⟨X1, hX⟩ : ∃ Z, W0.alloc (.cells #[.int .i64 (-77)] 3) = Z := ⟨_, rfl⟩
  rw [hX]
  have hbx : Below W0.heap.size W0 X1 := by rw [← hX]; exact (Below.refl _ _).alloc (Nat.le_refl _) _
  have R1 : IntRow X1 (some ⟨W0.heap.size, 0, none⟩) [-77] := by rw [← hX]; exact row_lit _ [-77] _ _ rfl
  have B1 := B0.trans (hbx.mono B0.size)
  clear hX
  refine hK.out _ _ (hSel _ B1) (fun hHeld => ?_)
  clear hK K
  try simp only [Act.put, List.setIfInBounds_toArray, List.set_cons_zero, List.set_cons_succ]
  refine wpAnyH_ready (rs := [5]) (by kernel_rfl) (by simp) ?_
  refine AllReadyH.cons (o := { dst := some 125, op := Op.call { callee := Callee.builtin Builtin.append, args := #[Operand.const (Value.slice none 0 0), Operand.tmp 124], argTypes := #[32, 32] }, type := 32, pos := "law.go:60", after := #[{ on := 4, ground := Ground.data }], guard := none }) rfl (fun K hK => ?_) AllReadyH.nil
  obtain ⟨v1, X2, hr1, ho1, hb1⟩ := app_nil X1 X1.heap.size oa L oc hN (hRow _ B1) (by omega) (Nat.le_refl _)
  rw [hLen] at hr1
  refine append_step (by rfl) _ _ (by rfl) (by rfl) _ _ _ _ (by rfl) (by rfl) hr1 ?_
  have B2 := B1.trans (hb1.mono B1.size)
  have R2 := R1.below hb1
  clear hr1
  refine hK.out _ _ (hSel _ B2) (fun hHeld => ?_)
  clear hK K
  try simp only [Act.put, List.setIfInBounds_toArray, List.set_cons_zero, List.set_cons_succ]
  refine wpAnyH_ready (rs := [7]) (by kernel_rfl) (by simp) ?_
  refine AllReadyH.cons (o := { dst := some 127, op := Op.call { callee := Callee.builtin Builtin.append, args := #[Operand.tmp 125, Operand.tmp 126], argTypes := #[32, 32] }, type := 32, pos := "law.go:60", after := #[{ on := 5, ground := Ground.data }, { on := 6, ground := Ground.data }, { on := 5, ground := Ground.chain }], guard := none }) rfl (fun K hK => ?_) AllReadyH.nil
  have z1 := hb1.size
  have z2 := hbx.size
  have z3 := B2.size
  obtain ⟨g3, cap3, X3, hr3, hg3, hrow3, hb3, hc3, hf3⟩ := app_last X2 _ v1 L (-77) _ ho1 R2 (by omega) (by omega)
  rw [hLen] at hr3 hc3
  refine append_step (by rfl) _ _ (by rfl) (by rfl) _ _ _ _ (by rfl) (by rfl) hr3 ?_
  have hg4 : W0.heap.size ≤ g3 := by have := B1.size; omega
  have B3 : Below W0.heap.size W0 X3 := B2.trans (hb3.mono (by have := B1.size; omega))
  have hsl := slice_to g3 (ol + 1) cap3 ol (by omega)
  clear hr3
  refine hK.out _ _ (hSel _ B3) (fun hHeld => ?_)
  clear hK K
  try simp only [Act.put, List.setIfInBounds_toArray, List.set_cons_zero, List.set_cons_succ]
  refine wpAnyH_take (i := 14) (oi := { dst := some 134, op := Op.slice 32 (Operand.tmp 127) none (some (Operand.tmp 133)) none, type := 32, pos := "law.go:60", after := #[{ on := 7, ground := Ground.data }, { on := 13, ground := Ground.data }], guard := none }) (v := ?_) rfl (by kernel_rfl) (by kernel_rfl) (by kernel_rfl) (fun c a w h => hp c _ _ _ w h) (Or.inl ⟨by rfl, ?_⟩) hHeld ?_
  rotate_left
  · (intro w hSw; (try dsimp only at hSw); go_simp; all_goals (try with_reducible rfl))
  try simp only [Act.put, List.setIfInBounds_toArray, List.set_cons_zero, List.set_cons_succ]
  refine wpAnyH_take (i := 15) (oi := { dst := some 12, op := Op.assign (Operand.tmp 134), type := 32, pos := "law.go:60", after := #[{ on := 14, ground := Ground.data }, { on := 7, ground := Ground.chain }, { on := 0, ground := Ground.phase }, { on := 1, ground := Ground.phase }, { on := 2, ground := Ground.phase }, { on := 3, ground := Ground.phase }, { on := 4, ground := Ground.phase }, { on := 5, ground := Ground.phase }, { on := 6, ground := Ground.phase }, { on := 7, ground := Ground.phase }, { on := 8, ground := Ground.phase }, { on := 9, ground := Ground.phase }, { on := 10, ground := Ground.phase }, { on := 11, ground := Ground.phase }, { on := 12, ground := Ground.phase }, { on := 13, ground := Ground.phase }, { on := 14, ground := Ground.phase }], guard := none }) (v := ?_) rfl (by kernel_rfl) (by kernel_rfl) (by kernel_rfl) (fun c a w h => hp c _ _ _ w h) (Or.inl ⟨by rfl, ?_⟩) hHeld ?_
  rotate_left
  · (intro w hSw; (try dsimp only at hSw); go_simp; all_goals (try with_reducible rfl))
  try simp only [Act.put, List.setIfInBounds_toArray, List.set_cons_zero, List.set_cons_succ]
  refine wpAnyH_done (by kernel_rfl) ?_ _
  exact hfin _ g3 cap3 B3 hrow3 hg4 hc3 hf3 v1 _
end Go.Proofs.Ytgdijnmanhglnaa
