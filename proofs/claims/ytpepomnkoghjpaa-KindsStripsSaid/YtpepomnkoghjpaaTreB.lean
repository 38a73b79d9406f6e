/- Forests in memory, part by part: behind some parts; recursion over a tree's parts. -/
import Derived.Test.YtpepomnkoghjpaaTre
set_option maxRecDepth 100000
set_option linter.unusedVariables false
namespace Go.Proofs.Ytpepomnkoghjpaa
open Go.RowKit Go.Lib

namespace Fo
variable {H L : Type}
def drop : Nat → Fo H L → Fo H L
  | 0, f => f
  | _ + 1, .nil => .nil
  | n + 1, .cons _ _ _ r => drop n r
theorem drop_nil : ∀ n, drop n (.nil : Fo H L) = .nil
  | 0 => rfl
  | _ + 1 => rfl
theorem drop_len : ∀ (n : Nat) (f : Fo H L), (drop n f).len = f.len - n
  | 0, f => rfl
  | n + 1, .nil => by simp [drop, len]
  | n + 1, .cons l h k r => by simp only [drop, len, drop_len n r]; omega
theorem drop_succ : ∀ (n : Nat) {f : Fo H L} {l : L} {h : H} {k r : Fo H L}, drop n f = .cons l h k r → drop (n + 1) f = r
  | 0, f, l, h, k, r, e => by
    have e' : f = .cons l h k r := e
    rw [e']
    rfl
  | n + 1, .nil, l, h, k, r, e => by simp [drop] at e
  | n + 1, .cons l' h' k' r', l, h, k, r, e => drop_succ n (f := r') e
theorem drop_lt {n : Nat} {f : Fo H L} (h : n < f.len) : ∃ l x k r, drop n f = .cons l x k r := len_pos (by rw [drop_len]; omega)
theorem drop_all {n : Nat} {f : Fo H L} (h : f.len ≤ n) : drop n f = .nil := len_zero (by rw [drop_len]; omega)
/-- Of the parts of every part. -/
def AllK (Q : Fo H L → Prop) : Fo H L → Prop
  | .nil => True
  | .cons _ _ k r => Q k ∧ AllK Q r
theorem AllK.drop {Q : Fo H L → Prop} : ∀ (n : Nat) {f : Fo H L}, AllK Q f → AllK Q (drop n f)
  | 0, f, h => h
  | n + 1, .nil, h => h
  | n + 1, .cons l x k r, h => AllK.drop n (f := r) h.2
theorem AllK.at_ {Q : Fo H L → Prop} {n : Nat} {f : Fo H L} (a : AllK Q f) {l : L} {h : H} {k r : Fo H L} (e : Fo.drop n f = .cons l h k r) : Q k := by
  have := a.drop n
  rw [e] at this
  exact this.1
/-- What holds of a tree's parts if it holds of the parts of each of them, holds. -/
theorem deep {Q : Fo H L → Prop} (s : ∀ f, AllK Q f → Q f) (f : Fo H L) : Q f := by
  have key : ∀ f : Fo H L, AllK Q f := by
    intro f
    induction f with
    | nil => trivial
    | cons l h k r ik ir => exact ⟨s k ik, ir⟩
  exact s f (key f)
end Fo
section
variable {H L : Type} {k pre : Nat} {hd : World → List Value → H → Value → Prop} {pl : World → List Value → L → Prop}
theorem RdFo.drop {w : World} {g : Nat} : ∀ (n : Nat) {f : Fo H L} {o : Nat}, RdFo k pre hd pl w f g o → RdFo k pre hd pl w (f.drop n) g (o + n * (pre + k))
  | 0, f, o, h => by rw [Nat.zero_mul, Nat.add_zero]; exact h
  | n + 1, .nil, o, h => trivial
  | n + 1, .cons l x kids r, o, h => by
    have := RdFo.drop n (f := r) h.2
    rw [show o + (n + 1) * (pre + k) = o + (pre + k) + n * (pre + k) by rw [Nat.add_mul]; omega]
    exact this
/-- The part at an index: its cells, what it is. -/
theorem RdSl.at_ {w : World} {v : Value} {f : Fo H L} (h : RdSl k pre hd pl w v f) {c : Nat} {A : Option Addr} {n : Nat} (hv : v = .slice A n c) {i : Nat} {l : L} {x : H} {kids rest : Fo H L} (e : f.drop i = .cons l x kids rest) :
    ∃ g o, A = some ⟨g, o, none⟩ ∧ g < w.heap.size ∧ ∃ ps ts : List Value, ps.length = pre ∧ (∀ j v, (ps ++ ts)[j]? = some v → w.cell? ⟨g, o + i * (pre + k) + j, none⟩ = some v) ∧ pl w ps l ∧ RdNd k pre hd pl w ts x kids := by
  obtain ⟨A', c', rfl, -, hs⟩ := h
  simp only [Value.slice.injEq] at hv
  obtain ⟨rfl, -, -⟩ := hv
  have hp : 0 < f.len := by
    have := Fo.drop_len i f
    rw [e] at this
    simp only [Fo.len] at this
    omega
  obtain ⟨g, o, rfl, hg, hf⟩ := hs hp
  have := hf.drop i
  rw [e] at this
  exact ⟨g, o, rfl, hg, this.first.1⟩
end
end Go.Proofs.Ytpepomnkoghjpaa
