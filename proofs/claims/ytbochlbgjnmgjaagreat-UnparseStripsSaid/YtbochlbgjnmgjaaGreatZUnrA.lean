/- Layer 17: the reference: labels, parts. -/
import Derived.Test.YtbochlbgjnmgjaaGreatG9
import Derived.Test.YtbochlbgjnmgjaaGreatG13
import Derived.Test.YtbochlbgjnmgjaaGreatG3
import Derived.Test.YtbochlbgjnmgjaaGreatCls
import Derived.Deep.CutRange
set_option maxRecDepth 100000
set_option linter.unusedVariables false
namespace Go.Proofs.YtbochlbgjnmgjaaGreat.Unp
open Go.RowKit Go.Lib Go.Proofs.YtbochlbgjnmgjaaGreat.Nam Go.Proofs.YtbochlbgjnmgjaaGreat.Lat Go.Proofs.YtbochlbgjnmgjaaGreat.Kin Go.Proofs.YtbochlbgjnmgjaaGreat.Dig

theorem wpQuiet_k {P : Program} {ops : Array Oper} {C : World → Prop} {Q : Act → Prop} {a : Act} {l : List Oper} (h : ∀ Kp : Act → Prop, (∀ b, Q b → Kp b) → wpQuiet P ops C Kp l a) : wpQuiet P ops C Q l a := h _ fun _ h => h
/-- The contract of the reference's Type. -/
def TxQ (f : Ft) : Prop := ∀ (t : TH) (nv pv : Value) (w : World), okT t f → GoodH t → f.All GoodH GoodL → f.len ≤ maxLen → RdY w t f nv pv → (txT t f).size ≤ 1000000000 → ∀ R : Ending → World → Prop,
  Hid (∀ w', Below w.heap.size w w' → R (.returned (.string (txT t f))) w') → Calls Tryz.prog 45 #[tyV t nv pv] w R
def ptT (tag : Bool) (p : PH) (t : ByteArray) : ByteArray := if tag then tagT p t else fldT p t
end Go.Proofs.YtbochlbgjnmgjaaGreat.Unp
