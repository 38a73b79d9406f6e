/- The code's denoted, Unquote, Canonical. -/
import Derived.Test.YtikcblnemdbjnaaEscD
import Derived.Test.YtikcblnemdbjnaaEscE
set_option linter.unusedVariables false
namespace Go.Proofs.Ytikcblnemdbjnaa.Esc
open Go.RowKit Go.Lib Go.Proofs.Ytikcblnemdbjnaa.Utf Go.Proofs.Ytikcblnemdbjnaa.Ran Go.Proofs.Ytikcblnemdbjnaa.Cel Go.Proofs.Ytikcblnemdbjnaa.Bld

theorem ret3si {R : Ending → World → Prop} {w : World} {a a' : ByteArray} {b b' c c' : Int} (h : R (.returned (.tuple #[.string a, .int .i64 b, .int .i64 c])) w) (e1 : a = a') (e2 : b = b') (e3 : c = c') :
    R (.returned (.tuple #[.string a', .int .i64 b', .int .i64 c'])) w := by subst e1 e2 e3; exact h
/-- What Unquote hands back. -/
abbrev unqT (p : ByteArray × Int × Int × Int) : Value := .tuple #[.string p.1, .int .i64 p.2.1, .agg #[.int .i64 p.2.2.1, .int .i64 p.2.2.2]]
theorem un_emp : (⟨#[]⟩ : ByteArray) = ByteArray.empty := rfl
end Go.Proofs.Ytikcblnemdbjnaa.Esc
