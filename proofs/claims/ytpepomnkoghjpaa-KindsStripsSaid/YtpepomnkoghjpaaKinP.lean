/- Layer 15, the code: a type without places. -/
import Derived.Test.YtpepomnkoghjpaaKinO
set_option maxRecDepth 100000
set_option linter.unusedVariables false
namespace Go.Proofs.Ytpepomnkoghjpaa.Kin
open Go.RowKit Go.Lib Go.Proofs.Ytpepomnkoghjpaa.Utf Go.Proofs.Ytpepomnkoghjpaa.Nam Go.Proofs.Ytpepomnkoghjpaa.Lat

theorem Fr.setle {b q : Nat} {w w' : World} (a : Fr b w w') (hq : q ≤ b) (o : Nat) (v : Value) : Fr b w (w'.setCell ⟨q, o, none⟩ v) := ⟨by simpa [World.setCell] using a.s, fun g h1 h2 => (set_neK (by omega)).trans (a.h g h1 h2)⟩
theorem Fr.kp0 {b b' b0 : Nat} {w w' : World} (a : Fr b w w') (hb : b < b') (h0 : b0 ≤ b') : Kp (empW (lowS b') w) (empW (lowS b0) w') := emp_kp a.s fun g h1 h2 => ⟨by unfold lowS at *; omega, a.h g (by unfold lowS at h2; omega) h1⟩
set_option maxRecDepth 100000 in
set_option maxHeartbeats 2000000 in
theorem strip_step (f : Ft) (ih : Fo.AllK StripC f) : StripC f := by
  intro h nv pv w gh hfl hln hga hgb hy R hR
  obtain ⟨Ap, cp, rfl, -⟩ := hy.p.sl
  obtain ⟨An, cn, rfl, -, -⟩ := hy.n.op
  have b1 := (Below.refl w.heap.size w).alloc (Nat.le_refl _) (.cells #[.int .i64 h.kind, .int .i64 h.at_, .int .i64 h.lo, .int .i64 h.hi, .int .i64 h.most, .slice An h.names.length cn, .slice Ap f.len cp, .string h.name, .int .i64 h.nat] 27)
  have b2 := b1.alloc b1.size (.cells #[.int .i64 0, .int .i64 0, .int .i64 0, .int .i64 0, .int .i64 0, .slice none 0 0, .slice none 0 0, .string ⟨#[]⟩, .int .i64 0] 27)
  have z1 : (w.alloc (.cells #[.int .i64 h.kind, .int .i64 h.at_, .int .i64 h.lo, .int .i64 h.hi, .int .i64 h.most, .slice An h.names.length cn, .slice Ap f.len cp, .string h.name, .int .i64 h.nat] 27)).heap.size = w.heap.size + 1 := by simp
  have hT := (((Below.refl _ _).alloc (Nat.le_refl _) (.cells #[.int .i64 0, .int .i64 0, .int .i64 0, .int .i64 0, .int .i64 0, .slice none 0 0, .slice none 0 0, .string ⟨#[]⟩, .int .i64 0] 27)).block w.heap.size (by omega)).trans (heap_alloc_new w (.cells #[.int .i64 h.kind, .int .i64 h.at_, .int .i64 h.lo, .int .i64 h.hi, .int .i64 h.most, .slice An h.names.length cn, .slice Ap f.len cp, .string h.name, .int .i64 h.nat] 27))
  have hY := heap_alloc_new (w.alloc (.cells #[.int .i64 h.kind, .int .i64 h.at_, .int .i64 h.lo, .int .i64 h.hi, .int .i64 h.most, .slice An h.names.length cn, .slice Ap f.len cp, .string h.name, .int .i64 h.nat] 27)) (.cells #[.int .i64 0, .int .i64 0, .int .i64 0, .int .i64 0, .int .i64 0, .slice none 0 0, .slice none 0 0, .string ⟨#[]⟩, .int .i64 0] 27)
  rw [z1] at hY
  replace hy := Lib.hid hy
  replace hga := Lib.hid hga
  replace hgb := Lib.hid hgb
  replace ih := Lib.hid ih
  go_enter Try.func15, Try.ntmps15
  go_upto_region 1 with fail
  generalize (w.alloc (.cells #[.int .i64 h.kind, .int .i64 h.at_, .int .i64 h.lo, .int .i64 h.hi, .int .i64 h.most, .slice An h.names.length cn, .slice Ap f.len cp, .string h.name, .int .i64 h.nat] 27)).alloc (.cells #[.int .i64 0, .int .i64 0, .int .i64 0, .int .i64 0, .int .i64 0, .slice none 0 0, .slice none 0 0, .string ⟨#[]⟩, .int .i64 0] 27) = V at *
  clear b1 z1
  have u1 := (Lib.cell_of_heap hT 1).trans rfl
  have uf1 := Lib.frozen_of_heap hT 1
  have u8 := (Lib.cell_of_heap hT 8).trans rfl
  have uf8 := Lib.frozen_of_heap hT 8
  have hT2 := set_atK (set_atK hT 1 (.int .i64 0)) 8 (.int .i64 0)
  simp only [List.setIfInBounds_toArray, List.set_cons_succ, List.set_cons_zero] at hT2
  have hY2 := (set_neK (w := V.setCell ⟨w.heap.size, 1, none⟩ (.int .i64 0)) (q := w.heap.size) (o := 8) (v := .int .i64 0) (show w.heap.size + 1 ≠ w.heap.size by omega)).trans ((set_neK (w := V) (q := w.heap.size) (o := 1) (v := .int .i64 0) (show w.heap.size + 1 ≠ w.heap.size by omega)).trans hY)
  have nb2 := (b2.setCell (p := ⟨w.heap.size, 1, none⟩) (Nat.le_refl _) (.int .i64 0)).setCell (p := ⟨w.heap.size, 8, none⟩) (Nat.le_refl _) (.int .i64 0)
  go_upto_region 3 with fail
  generalize (V.setCell ⟨w.heap.size, 1, none⟩ (.int .i64 0)).setCell ⟨w.heap.size, 8, none⟩ (.int .i64 0) = V2 at *
  clear u1 uf1 u8 uf8 hT hY b2
  have l2 := blt_of hY2
  have u5 := (Lib.cell_of_heap hT2 5).trans rfl
  go_wp2_with fail
  refine stripWords_calls h.names gh.1.2.2.2.2.2.2.2.2 gh.2 (.slice An h.names.length cn) V2 (hy.out.below nb2).n _ (Lib.hid fun v1 w1 r1 m1 => ?_)
  obtain ⟨B3, c3, rfl, -, -⟩ := r1.op
  have hT3 := (m1.block _ (blt_of hT2)).trans hT2
  have hY3 := (m1.block _ (blt_of hY2)).trans hY2
  have nb3 := nb2.trans (m1.mono nb2.size)
  clear u5
  have u5 := (Lib.cell_of_heap hT3 5).trans rfl
  have uf5 := Lib.frozen_of_heap hT3 5
  have hT4 := set_atK hT3 5 (.slice B3 (stripW h.names).length c3)
  simp only [List.setIfInBounds_toArray, List.set_cons_succ, List.set_cons_zero] at hT4
  have hY4 := (set_neK (w := w1) (q := w.heap.size) (o := 5) (v := .slice B3 (stripW h.names).length c3) (show w.heap.size + 1 ≠ w.heap.size by omega)).trans hY3
  have nb4 := nb3.setCell (p := ⟨w.heap.size, 5, none⟩) (Nat.le_refl _) (.slice B3 (stripW h.names).length c3)
  have f1 : Fr (w.heap.size + 1) w1 (w1.setCell ⟨w.heap.size, 5, none⟩ (.slice B3 (stripW h.names).length c3)) := (Fr.refl _ _).setle (Nat.le_succ _) _ _
  go_upto_region 4 with fail
  generalize w1.setCell ⟨w.heap.size, 5, none⟩ (.slice B3 (stripW h.names).length c3) = V4 at *
  clear u5 uf5 hT3 hY3
  have l4 := blt_of hY4
  have u6 := (Lib.cell_of_heap hT4 6).trans rfl
  go_wp2_with fail
  refine stripParts_calls f ih.out (.slice Ap f.len cp) V4 hfl hln hga.out hgb.out (hy.out.below nb4).p _ (Lib.hid fun v2 w2 r2 m2 => ?_)
  obtain ⟨B4, c4, rfl, -⟩ := r2.sl
  have hT5 := (m2.block _ (blt_of hT4)).trans hT4
  have hY5 := (m2.block _ (blt_of hY4)).trans hY4
  have nb5 := nb4.trans (m2.mono nb4.size)
  clear u6
  have u6 := (Lib.cell_of_heap hT5 6).trans rfl
  have uf6 := Lib.frozen_of_heap hT5 6
  have hT6 := set_atK hT5 6 (.slice B4 (stripF f).len c4)
  simp only [List.setIfInBounds_toArray, List.set_cons_succ, List.set_cons_zero] at hT6
  have hY6 := (set_neK (w := w2) (q := w.heap.size) (o := 6) (v := .slice B4 (stripF f).len c4) (show w.heap.size + 1 ≠ w.heap.size by omega)).trans hY5
  have nb6 := nb5.setCell (p := ⟨w.heap.size, 6, none⟩) (Nat.le_refl _) (.slice B4 (stripF f).len c4)
  have f2 : Fr (w.heap.size + 1) w2 (w2.setCell ⟨w.heap.size, 6, none⟩ (.slice B4 (stripF f).len c4)) := (Fr.refl _ _).setle (Nat.le_succ _) _ _
  have f12 := f1.trans ((Fr.bl m2).trans f2)
  go_upto_region 5 with fail
  generalize w2.setCell ⟨w.heap.size, 6, none⟩ (.slice B4 (stripF f).len c4) = V6 at *
  clear u6 uf6 hT5 hY5 f1
  have r0 : V6.rangeAt w.heap.size 0 [.int .i64 h.kind, .int .i64 0, .int .i64 h.lo, .int .i64 h.hi, .int .i64 h.most, .slice B3 (stripW h.names).length c3, .slice B4 (stripF f).len c4, .string h.name, .int .i64 0] := fun j v e => by rw [Nat.zero_add, Lib.cell_of_heap hT6]; simpa using e
  have y0 := (Lib.cell_of_heap hY6 0).trans rfl
  have yf0 := Lib.frozen_of_heap hY6 0
  have y1 := (Lib.cell_of_heap hY6 1).trans rfl
  have yf1 := Lib.frozen_of_heap hY6 1
  have y2 := (Lib.cell_of_heap hY6 2).trans rfl
  have yf2 := Lib.frozen_of_heap hY6 2
  have y3 := (Lib.cell_of_heap hY6 3).trans rfl
  have yf3 := Lib.frozen_of_heap hY6 3
  have y4 := (Lib.cell_of_heap hY6 4).trans rfl
  have yf4 := Lib.frozen_of_heap hY6 4
  have y5 := (Lib.cell_of_heap hY6 5).trans rfl
  have yf5 := Lib.frozen_of_heap hY6 5
  have y6 := (Lib.cell_of_heap hY6 6).trans rfl
  have yf6 := Lib.frozen_of_heap hY6 6
  have y7 := (Lib.cell_of_heap hY6 7).trans rfl
  have yf7 := Lib.frozen_of_heap hY6 7
  have y8 := (Lib.cell_of_heap hY6 8).trans rfl
  have yf8 := Lib.frozen_of_heap hY6 8
  have fF : Fr (w.heap.size + 1) V6 (((((((((V6.setCell ⟨w.heap.size + 1, 0, none⟩ (.int .i64 h.kind)).setCell ⟨w.heap.size + 1, 1, none⟩ (.int .i64 0)).setCell ⟨w.heap.size + 1, 2, none⟩ (.int .i64 h.lo)).setCell ⟨w.heap.size + 1, 3, none⟩ (.int .i64 h.hi)).setCell ⟨w.heap.size + 1, 4, none⟩ (.int .i64 h.most)).setCell ⟨w.heap.size + 1, 5, none⟩ (.slice B3 (stripW h.names).length c3)).setCell ⟨w.heap.size + 1, 6, none⟩ (.slice B4 (stripF f).len c4)).setCell ⟨w.heap.size + 1, 7, none⟩ (.string h.name)).setCell ⟨w.heap.size + 1, 8, none⟩ (.int .i64 0)) := (Fr.set (Fr.set (Fr.set (Fr.set (Fr.set (Fr.set (Fr.set (Fr.set (Fr.set (Fr.refl (w.heap.size + 1) V6) 0 (.int .i64 h.kind)) 1 (.int .i64 0)) 2 (.int .i64 h.lo)) 3 (.int .i64 h.hi)) 4 (.int .i64 h.most)) 5 (.slice B3 (stripW h.names).length c3)) 6 (.slice B4 (stripF f).len c4)) 7 (.string h.name)) 8 (.int .i64 0))
  have fin := Lib.hid (hR.out (.slice B3 (stripW h.names).length c3) (.slice B4 (stripF f).len c4) (((((((((V6.setCell ⟨w.heap.size + 1, 0, none⟩ (.int .i64 h.kind)).setCell ⟨w.heap.size + 1, 1, none⟩ (.int .i64 0)).setCell ⟨w.heap.size + 1, 2, none⟩ (.int .i64 h.lo)).setCell ⟨w.heap.size + 1, 3, none⟩ (.int .i64 h.hi)).setCell ⟨w.heap.size + 1, 4, none⟩ (.int .i64 h.most)).setCell ⟨w.heap.size + 1, 5, none⟩ (.slice B3 (stripW h.names).length c3)).setCell ⟨w.heap.size + 1, 6, none⟩ (.slice B4 (stripF f).len c4)).setCell ⟨w.heap.size + 1, 7, none⟩ (.string h.name)).setCell ⟨w.heap.size + 1, 8, none⟩ (.int .i64 0)) ⟨r1.kp (Fr.kp0 (f12.trans fF) l2 (by have := nb2.size; omega)), RdSl.kp (hd := hdT) (pl := plT) (fun _ _ _ _ _ q h => hdT.kp q h) (fun _ _ _ _ q h => plT.kp q h) (Fr.kp0 (f2.trans fF) l4 (by have := nb4.size; omega)) r2⟩ (((((((((nb6.setCell (p := ⟨w.heap.size + 1, 0, none⟩) (by show w.heap.size ≤ w.heap.size + 1; omega) (.int .i64 h.kind)).setCell (p := ⟨w.heap.size + 1, 1, none⟩) (by show w.heap.size ≤ w.heap.size + 1; omega) (.int .i64 0)).setCell (p := ⟨w.heap.size + 1, 2, none⟩) (by show w.heap.size ≤ w.heap.size + 1; omega) (.int .i64 h.lo)).setCell (p := ⟨w.heap.size + 1, 3, none⟩) (by show w.heap.size ≤ w.heap.size + 1; omega) (.int .i64 h.hi)).setCell (p := ⟨w.heap.size + 1, 4, none⟩) (by show w.heap.size ≤ w.heap.size + 1; omega) (.int .i64 h.most)).setCell (p := ⟨w.heap.size + 1, 5, none⟩) (by show w.heap.size ≤ w.heap.size + 1; omega) (.slice B3 (stripW h.names).length c3)).setCell (p := ⟨w.heap.size + 1, 6, none⟩) (by show w.heap.size ≤ w.heap.size + 1; omega) (.slice B4 (stripF f).len c4)).setCell (p := ⟨w.heap.size + 1, 7, none⟩) (by show w.heap.size ≤ w.heap.size + 1; omega) (.string h.name)).setCell (p := ⟨w.heap.size + 1, 8, none⟩) (by show w.heap.size ≤ w.heap.size + 1; omega) (.int .i64 0)))
  clear hR fF r1 r2 f12 f2 hT6 hY6 hT4 hY4 hT2 hY2
  go_wp2_with (refine wpList_load_g (by rfl) 27 _ rfl w.heap.size 0 rfl [.int .i64 h.kind, .int .i64 0, .int .i64 h.lo, .int .i64 h.hi, .int .i64 h.most, .slice B3 (stripW h.names).length c3, .slice B4 (stripF f).len c4, .string h.name, .int .i64 0] _ r0 Try.underlying27 rfl (by kernel_rfl) ?_; go_simp)
  refine bodyPost_ret ?_ rfl fin.out
  simp [results, Try.results15, go_sem, stripH, y0, y1, y2, y3, y4, y5, y6, y7, y8]
theorem strip_calls (f : Ft) : StripC f := Fo.deep strip_step f
theorem i64_0 : I64 0 := ⟨by decide, by decide⟩
theorem goodW_strip {l : List Wr} (h : ∀ x ∈ l, GoodW x) : ∀ x ∈ stripW l, GoodW x := by
  intro x hx
  obtain ⟨y, hy, rfl⟩ := List.mem_map.1 hx
  exact ⟨(h y hy).1, by show (-9223372036854775808 : Int) ≤ 0; decide, by show (0 : Int) ≤ 9223372036854775807; decide⟩
theorem limH_strip {h : TH} (g : LimH h) : LimH (stripH h) := by
  obtain ⟨⟨a1, a2, a3, a4, a5, a6, a7, a8, a9⟩, b⟩ := g
  exact ⟨⟨a1, i64_0, a3, a4, a5, goodW_strip a6, a7, i64_0, by rw [show (stripH h).names = stripW h.names from rfl, stripW_len]; exact a9⟩, by rw [show (stripH h).names = stripW h.names from rfl, stripW_len]; exact b⟩
theorem limL_strip {p : PH} (g : LimL p) : LimL (stripP p) := by
  obtain ⟨⟨a1, a2, a3, a4, a5, a6, a7, a8, a9, a10⟩, b, c⟩ := g
  exact ⟨⟨a1, i64_0, goodW_strip a3, a4, a5, a6, i64_0, goodW_strip a8, by rw [show (stripP p).label = stripW p.label from rfl, stripW_len]; exact a9, by rw [show (stripP p).cl = stripW p.cl from rfl, stripW_len]; exact a10⟩, by rw [show (stripP p).label = stripW p.label from rfl, stripW_len]; exact b, by rw [show (stripP p).cl = stripW p.cl from rfl, stripW_len]; exact c⟩
theorem good_strip : ∀ {f : Ft}, f.All LimH LimL → (stripF f).All LimH LimL
  | .nil, _ => trivial
  | .cons p x k r, h => ⟨limL_strip h.1, limH_strip h.2.1, by rw [len_strip]; exact h.2.2.1, good_strip h.2.2.2.1, good_strip h.2.2.2.2⟩
theorem limN_strip : ∀ {f : Ft}, f.AllB LimN → (stripF f).AllB LimN
  | .nil, _ => trivial
  | .cons p x k r, h => ⟨by rw [len_strip]; exact h.1, limN_strip h.2.1, limN_strip h.2.2⟩
end Go.Proofs.Ytpepomnkoghjpaa.Kin
