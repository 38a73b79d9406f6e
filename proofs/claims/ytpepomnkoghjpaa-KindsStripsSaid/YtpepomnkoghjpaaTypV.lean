/- Layer 15: what is wrong: plain lemmas of the reference's and the code's walks. -/
import Derived.Test.YtpepomnkoghjpaaTypG
import Derived.Test.YtpepomnkoghjpaaTypH
set_option maxRecDepth 100000
set_option linter.unusedVariables false
namespace Go.Proofs.Ytpepomnkoghjpaa.Kin
open Go.RowKit Go.Lib Go.Proofs.Ytpepomnkoghjpaa.Utf Go.Proofs.Ytpepomnkoghjpaa.Nam Go.Proofs.Ytpepomnkoghjpaa.Lat

theorem wrB_cnt (h : TH) (k : Ft) (sub : Mo → Nat → Nat → Res) (hs : ∀ mo d m, m ≤ 512 → (sub mo d m).1 = 0 → (sub mo d m).2.2 ≤ 512) (d m : Nat) : (wrB h k sub d m).1 = 0 → (wrB h k sub d m).2.2 ≤ 512 := by
  unfold wrB
  by_cases h1 : 24 < d
  · rw [if_pos h1]; simp
  rw [if_neg h1]
  by_cases h2 : 512 < m + 1
  · rw [if_pos h2]; simp
  rw [if_neg h2]
  have hm : m + 1 ≤ 512 := by omega
  repeat' split
  all_goals first | exact hs _ _ _ hm | (intro _; exact hm)
theorem wrF_cnt : ∀ (f : Ft) (mo : Mo) (d m : Nat), m ≤ 512 → (wrF f mo d m).1 = 0 → (wrF f mo d m).2.2 ≤ 512
  | .nil, _, _, m, hm => fun _ => hm
  | .cons p h k r, .one, d, m, hm => wrB_cnt h k _ (wrF_cnt k) d m
  | .cons p h k r, .parts K ns i, d, m, hm => by
    have hB := wrB_cnt h k _ (wrF_cnt k) d m
    have hr := fun m hm => wrF_cnt r (.parts K ns (i + 1)) d m hm
    unfold wrF
    generalize wrB h k (wrF k) d m = A at *
    repeat' split
    all_goals first | exact hr _ hm | exact hB | (intro _; exact hm) | skip
    rename_i q
    exact hr _ (hB (by simpa using q))
theorem blt_of {V : World} {b : Nat} {o : Obj} (h : V.heap[b]? = some o) : b < V.heap.size := (Array.getElem?_eq_some_iff.1 h).1
theorem good_pnm : ∀ {f : Ft}, f.All GoodH GoodL → ∀ y ∈ pnm f, GoodW y
  | .nil, _, y, h => by simp [pnm] at h
  | .cons p x k r, a, y, h => by
    rcases List.mem_cons.1 h with rfl | h
    · exact ⟨a.1.1, a.1.2.1⟩
    · exact good_pnm a.2.2.2.2 y h
theorem pnm_at : ∀ (n : Nat) {f : Ft} {p : PH} {x : TH} {k r : Ft}, f.drop n = .cons p x k r → wN (pnm f) n = (p.name, p.at_)
  | 0, f, p, x, k, r, e => by
    have e' : f = .cons p x k r := e
    rw [e']
    rfl
  | n + 1, .nil, p, x, k, r, e => by simp [Fo.drop] at e
  | n + 1, .cons q y l s, p, x, k, r, e => by
    have := pnm_at n (f := s) e
    simpa [pnm, wN] using this
theorem set_atK {w : World} {p : Nat} {cs : Array Value} {t : TypeId} (h : w.heap[p]? = some (.cells cs t)) (o : Nat) (v : Value) : (w.setCell ⟨p, o, none⟩ v).heap[p]? = some (.cells (cs.setIfInBounds o v) t) := by
  simp [World.setCell, Array.getElem?_modify, h]
theorem set_neK {w : World} {q o k : Nat} {v : Value} (h : k ≠ q) : (w.setCell ⟨q, o, none⟩ v).heap[k]? = w.heap[k]? := Below.heap_setCell _ ⟨q, o, none⟩ v k h
theorem enumF_zero (ns : List ByteArray) : ∀ (l : List Wr) (i : Nat), (enumF ns i l).1 = 0 → (enumF ns i l).2 = 0
  | [], _ => fun _ => rfl
  | x :: r, i => by
    unfold enumF
    split
    · rename_i q; exact fun h => absurd h q
    · exact enumF_zero ns r (i + 1)
theorem wrB_zero (h : TH) (k : Ft) (sub : Mo → Nat → Nat → Res) (hs : ∀ mo d m, (sub mo d m).1 = 0 → (sub mo d m).2.1 = 0) (d m : Nat) : (wrB h k sub d m).1 = 0 → (wrB h k sub d m).2.1 = 0 := by
  unfold wrB
  by_cases h1 : 24 < d
  · rw [if_pos h1]; simp
  rw [if_neg h1]
  by_cases h2 : 512 < m + 1
  · rw [if_pos h2]; simp
  rw [if_neg h2]
  repeat' split
  all_goals first | exact hs _ _ _ | exact enumF_zero _ _ _ | (intro _; rfl) | (intro q; simp at q)
theorem wrF_zero : ∀ (f : Ft) (mo : Mo) (d m : Nat), (wrF f mo d m).1 = 0 → (wrF f mo d m).2.1 = 0
  | .nil, _, _, m => fun _ => rfl
  | .cons p h k r, .one, d, m => wrB_zero h k _ (wrF_zero k) d m
  | .cons p h k r, .parts K ns i, d, m => by
    have hB := wrB_zero h k _ (wrF_zero k) d m
    have hr := fun m => wrF_zero r (.parts K ns (i + 1)) d m
    unfold wrF
    generalize wrB h k (wrF k) d m = A at *
    repeat' split
    all_goals first | exact hr _ | exact hB | (rename_i q; exact fun h => absurd h q) | (intro q; simp at q)
/-- What is wrong with the parts of a record or a union. -/
noncomputable def partS (h : TH) (f : Ft) (d m : Nat) : Res := if h.kind = 8 ∧ f.len = 0 then (15, h.at_, m) else if 64 < f.len then (8, (wN (pnm f) 64).2, m) else wrF f (.parts h.kind (nms (pnm f)) 0) (d + 1) m
theorem TB.range {w : World} {B : Nat} {h : TH} {nv pv : Value} (q : TB w B h nv pv) : w.rangeAt B 0 [.int .i64 h.kind, .int .i64 h.at_, .int .i64 h.lo, .int .i64 h.hi, .int .i64 h.most, nv, pv, .string h.name, .int .i64 h.nat] := fun j v hj => by
  rw [Nat.zero_add]
  match j, hj with
  | 0, e => obtain rfl := Option.some.inj e; exact q.k0
  | 1, e => obtain rfl := Option.some.inj e; exact q.k1
  | 2, e => obtain rfl := Option.some.inj e; exact q.k2
  | 3, e => obtain rfl := Option.some.inj e; exact q.k3
  | 4, e => obtain rfl := Option.some.inj e; exact q.k4
  | 5, e => obtain rfl := Option.some.inj e; exact q.k5
  | 6, e => obtain rfl := Option.some.inj e; exact q.k6
  | 7, e => obtain rfl := Option.some.inj e; exact q.k7
  | 8, e => obtain rfl := Option.some.inj e; exact q.k8
  | _ + 9, e => simp at e
theorem TB.set1 {w : World} {B q : Nat} {h : TH} {nv pv : Value} (t : TB w B h nv pv) (hq : B ≠ q) (o : Nat) (a : Value) : TB (w.setCell ⟨q, o, none⟩ a) B h nv pv := by
  have e : (w.setCell ⟨q, o, none⟩ a).heap[B]? = w.heap[B]? := set_neK hq
  have k := fun j => World.cell?_of_block (a := ⟨B, j, none⟩) e
  exact ⟨by simp [World.setCell]; exact t.lt, (k 0).trans t.k0, (k 1).trans t.k1, (k 2).trans t.k2, (k 3).trans t.k3, (k 4).trans t.k4, (k 5).trans t.k5, (k 6).trans t.k6, (k 7).trans t.k7, (k 8).trans t.k8⟩
section
variable {h : TH} {k : Ft} {sub : Mo → Nat → Nat → Res} {d m M : Nat}
theorem wrB_ok (hM : M = m + 1) (hd : d ≤ 24) (hm : M ≤ 512) (h1 : 1 ≤ h.kind) (h9 : h.kind ≤ 9) (ho : ownB h k = true) : wrB h k sub d m =
    if (h.kind = 2 ∧ h.hi < h.lo) ∨ (h.kind = 3 ∧ (h.most < 0 ∨ 4096 < h.most)) then (20, h.at_, M)
    else if h.kind = 9 ∧ rightS h.name = false then (9, h.nat, M)
    else if h.kind = 4 then (if h.names = [] then (15, h.at_, M) else if 64 < h.names.length then (8, (wN h.names 64).2, M) else ((enumF (nms h.names) 0 h.names).1, (enumF (nms h.names) 0 h.names).2, M))
    else if h.kind = 5 ∨ h.kind = 6 then (if onlyB k = false then (19, h.at_, M) else if h.most < 0 ∨ 1024 < h.most then (20, h.at_, M) else sub .one (d + 1) M)
    else if h.kind = 7 ∨ h.kind = 8 then (if h.kind = 8 ∧ k.len = 0 then (15, h.at_, M) else if 64 < k.len then (8, (wN (pnm k) 64).2, M) else sub (.parts h.kind (nms (pnm k)) 0) (d + 1) M)
    else (0, 0, M) := by
  subst hM
  unfold wrB
  rw [if_neg (by omega), if_neg (by omega), if_neg (by omega), if_neg (by rw [ho]; simp)]
variable (hM : M = m + 1) (hd : d ≤ 24) (hm : M ≤ 512) (ho : ownB h k = true)
include hM hd hm ho
theorem wrB_1 (hk : h.kind = 1) : wrB h k sub d m = (0, 0, M) := by rw [wrB_ok hM hd hm (by omega) (by omega) ho]; simp [hk]
theorem wrB_2 (hk : h.kind = 2) : wrB h k sub d m = if h.hi < h.lo then (20, h.at_, M) else (0, 0, M) := by rw [wrB_ok hM hd hm (by omega) (by omega) ho]; simp [hk]
theorem wrB_3 (hk : h.kind = 3) : wrB h k sub d m = if h.most < 0 ∨ 4096 < h.most then (20, h.at_, M) else (0, 0, M) := by rw [wrB_ok hM hd hm (by omega) (by omega) ho]; simp [hk]
theorem wrB_9 (hk : h.kind = 9) : wrB h k sub d m = if rightS h.name = false then (9, h.nat, M) else (0, 0, M) := by rw [wrB_ok hM hd hm (by omega) (by omega) ho]; simp [hk]
theorem wrB_4 (hk : h.kind = 4) : wrB h k sub d m = if h.names = [] then (15, h.at_, M) else if 64 < h.names.length then (8, (wN h.names 64).2, M) else ((enumF (nms h.names) 0 h.names).1, (enumF (nms h.names) 0 h.names).2, M) := by rw [wrB_ok hM hd hm (by omega) (by omega) ho]; simp [hk]
theorem wrB_5 (hk : h.kind = 5 ∨ h.kind = 6) : wrB h k sub d m = if onlyB k = false then (19, h.at_, M) else if h.most < 0 ∨ 1024 < h.most then (20, h.at_, M) else sub .one (d + 1) M := by
  rw [wrB_ok hM hd hm (by omega) (by omega) ho]
  rcases hk with hk | hk <;> simp [hk]
theorem wrB_7 (hk : h.kind = 7) : wrB h k (wrF k) d m = partS h k d M := by rw [wrB_ok hM hd hm (by omega) (by omega) ho]; unfold partS; simp [hk]
theorem wrB_8 (hk : h.kind = 8) : wrB h k (wrF k) d m = partS h k d M := by rw [wrB_ok hM hd hm (by omega) (by omega) ho]; unfold partS; simp [hk]
end
theorem wrB_err (h : TH) (k : Ft) (sub : Mo → Nat → Nat → Res) (d m : Nat) : wrB h k sub d m =
    if 24 < d then (6, h.at_, m + 1) else if 512 < m + 1 then (8, h.at_, m + 1) else if h.kind < 1 ∨ 9 < h.kind then (14, h.at_, m + 1) else if ownB h k = false then (19, h.at_, m + 1) else wrB h k sub d m := by
  by_cases a : 24 < d
  · unfold wrB; simp only [a, if_true]
  by_cases b : 512 < m + 1
  · unfold wrB; simp only [a, b, if_true, if_false]
  by_cases c : h.kind < 1 ∨ 9 < h.kind
  · unfold wrB; simp only [a, b, c, if_true, if_false]
  by_cases e : ownB h k = false
  · unfold wrB; simp only [a, b, c, e, if_true, if_false]
  rw [if_neg a, if_neg b, if_neg c, if_neg e]
theorem enum_drop {ns : List ByteArray} {l : List Wr} {i : Nat} (hi : i < l.length) : enumF ns i (l.drop i) = if listedS ns i ≠ 0 then (listedS ns i, (wN l i).2) else enumF ns (i + 1) (l.drop (i + 1)) := by
  rw [List.drop_eq_getElem_cons hi, wN_get hi]
  rfl
theorem only_len : ∀ {f : Ft}, f.len ≠ 1 → onlyB f = false
  | .nil, _ => rfl
  | .cons p x k .nil, h => absurd rfl h
  | .cons p x k (.cons ..), _ => rfl
theorem only_one {f : Ft} {p : PH} {x : TH} {k r : Ft} (e : f.drop 0 = .cons p x k r) (hl : f.len = 1) : onlyB f = (decide (p.name = ByteArray.empty) && plainB p zPH) ∧ ∀ d m, wrF f .one d m = wrB x k (wrF k) d m := by
  have e' : f = .cons p x k r := e
  subst e'
  have : r = .nil := Fo.len_zero (by simp only [Fo.len] at hl; omega)
  subst this
  exact ⟨rfl, fun _ _ => rfl⟩
end Go.Proofs.Ytpepomnkoghjpaa.Kin
