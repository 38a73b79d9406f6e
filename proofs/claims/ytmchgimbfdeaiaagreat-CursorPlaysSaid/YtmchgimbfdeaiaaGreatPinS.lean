/- The chapter's tables as plain lists of ranges, and what holds of them. No Go here. -/
import Derived.Test.YtmchgimbfdeaiaaGreatRanS
import Derived.Deep.DeepMust
import Derived.Lib.Hide
set_option linter.unusedVariables false
namespace Go.Proofs.YtmchgimbfdeaiaaGreat.Ran
open Go.Lib

def zeroT : List Rg := [(768, 879), (1155, 1161), (1425, 1469), (1471, 1471), (1473, 1474), (1476, 1477), (1479, 1479), (1552, 1562), (1611, 1631), (1648, 1648), (1750, 1756), (1759, 1764), (1767, 1768),
  (1770, 1773), (1809, 1809), (1840, 1866), (1958, 1968), (2027, 2035), (2070, 2073), (2075, 2083), (2085, 2087), (2089, 2093), (2137, 2139), (2259, 2273), (2275, 2306), (2362, 2362),
  (2364, 2364), (2369, 2376), (2381, 2381), (2385, 2391), (2402, 2403), (2433, 2433), (2492, 2492), (2497, 2500), (2509, 2509), (2561, 2562), (2620, 2620), (2625, 2626), (2631, 2632),
  (2635, 2637), (3633, 3633), (3636, 3642), (3655, 3662), (3761, 3761), (3764, 3772), (3784, 3789), (4448, 4607), (4957, 4959), (5906, 5908), (6068, 6069), (6071, 6077), (6155, 6157),
  (6832, 6846), (7616, 7673), (7675, 7679), (8203, 8207), (8232, 8238), (8288, 8303), (8400, 8432), (12330, 12333), (12441, 12442), (42607, 42610), (42612, 42621), (42654, 42655),
  (42736, 42737), (43232, 43249), (64286, 64286), (65024, 65039), (65056, 65071), (65279, 65279), (65529, 65531), (66045, 66045), (68097, 68099), (68101, 68102), (68108, 68111),
  (119143, 119145), (119155, 119170), (119173, 119179), (119210, 119213), (917505, 917505), (917536, 917631), (917760, 917999)]
def wideT : List Rg := [(4352, 4447), (8986, 8987), (9001, 9002), (9193, 9196), (9200, 9200), (9203, 9203), (9725, 9726), (9748, 9749), (9800, 9811), (9855, 9855), (9875, 9875), (9889, 9889), (9898, 9899),
  (9917, 9918), (9924, 9925), (9934, 9934), (9940, 9940), (9962, 9962), (9970, 9971), (9973, 9973), (9978, 9978), (9981, 9981), (9989, 9989), (9994, 9995), (10024, 10024),
  (10060, 10060), (10062, 10062), (10067, 10069), (10071, 10071), (10133, 10135), (10160, 10160), (10175, 10175), (11035, 11036), (11088, 11088), (11093, 11093), (11904, 11929),
  (11931, 12019), (12032, 12245), (12272, 12283), (12288, 12329), (12334, 12350), (12353, 12438), (12443, 12543), (12549, 12591), (12593, 12686), (12688, 12730), (12736, 12771),
  (12784, 12830), (12832, 12871), (12880, 19903), (19968, 42124), (42128, 42182), (43360, 43388), (44032, 55203), (63744, 64255), (65040, 65049), (65072, 65106), (65108, 65126),
  (65128, 65131), (65281, 65376), (65504, 65510), (94176, 94179), (94208, 100343), (100352, 101106), (110592, 110878), (110928, 110930), (110948, 110951), (110960, 111355),
  (126980, 126980), (127183, 127183), (127374, 127374), (127377, 127386), (127488, 127490), (127504, 127547), (127552, 127560), (127568, 127569), (127584, 127589), (127744, 127776),
  (127789, 127797), (127799, 127868), (127870, 127891), (127904, 127946), (127951, 127955), (127968, 127984), (127988, 127988), (127992, 128062), (128064, 128064), (128066, 128252),
  (128255, 128317), (128331, 128334), (128336, 128359), (128378, 128378), (128405, 128406), (128420, 128420), (128507, 128591), (128640, 128709), (128716, 128716), (128720, 128722),
  (128725, 128727), (128747, 128748), (128756, 128764), (128992, 129003), (129292, 129338), (129340, 129349), (129351, 129400), (129402, 129483), (129485, 129535), (129648, 129652),
  (129656, 129658), (129664, 129670), (129680, 129704), (129712, 129718), (129728, 129730), (129744, 129750), (131072, 196605), (196608, 262141)]
def controlT : List Rg := [(0, 31), (127, 159)]
def bidiT : List Rg := [(1564, 1564), (8206, 8207), (8234, 8238), (8294, 8297)]
def formatT : List Rg := [(173, 173), (1536, 1541), (1757, 1757), (1807, 1807), (2274, 2274), (6158, 6158), (8203, 8205), (8288, 8292), (8298, 8303), (65279, 65279), (65529, 65531), (69821, 69821),
  (69837, 69837), (113824, 113827), (119155, 119162), (917505, 917505), (917536, 917631)]
def separatorT : List Rg := [(8232, 8233)]

/-- A list is canonical, as a test. -/
def canB : Int → List Rg → Bool
  | _, [] => true
  | lo, g :: l => decide (lo ≤ g.1) && decide (g.1 ≤ g.2) && decide (g.2 ≤ 1114111) && canB (g.2 + 2) l
theorem can_of_B : ∀ (l : List Rg) (lo : Int), canB lo l = true → Can lo l
  | [], _, _ => trivial
  | g :: l, lo, h => by
    simp only [canB, Bool.and_eq_true, decide_eq_true_eq] at h
    exact ⟨h.1.1.1, h.1.1.2, h.1.2, can_of_B l _ h.2⟩
/-- No rune is in both. -/
def apartB (l m : List Rg) : Bool := l.all fun g => m.all fun h => decide (g.2 < h.1) || decide (h.2 < g.1)
theorem apart_of_B {l m : List Rg} (h : apartB l m = true) (r : Int) : ¬ (hasB l r = true ∧ hasB m r = true) := by
  rintro ⟨h1, h2⟩
  obtain ⟨g, hg, a, b⟩ := hasB_iff.1 h1
  obtain ⟨k, hk, c, d⟩ := hasB_iff.1 h2
  have := List.all_eq_true.1 (List.all_eq_true.1 h g hg) k hk
  simp only [Bool.or_eq_true, decide_eq_true_eq] at this
  omega
set_option maxRecDepth 100000
theorem can_zero : Can 0 zeroT := can_of_B _ _ (by kernel_rfl)
theorem can_wide : Can 0 wideT := can_of_B _ _ (by kernel_rfl)
theorem can_control : Can 0 controlT := can_of_B _ _ (by kernel_rfl)
theorem can_bidi : Can 0 bidiT := can_of_B _ _ (by kernel_rfl)
theorem can_format : Can 0 formatT := can_of_B _ _ (by kernel_rfl)
theorem can_separator : Can 0 separatorT := can_of_B _ _ (by kernel_rfl)
theorem len_zero : zeroT.length = 82 := by kernel_rfl
theorem len_wide : wideT.length = 116 := by kernel_rfl
theorem wide_zero (r : Int) : ¬ (hasB wideT r = true ∧ hasB zeroT r = true) := apart_of_B (by kernel_rfl) r
theorem in_can {l : List Rg} (h : Can 0 l) (r : Int) : inB l r = hasB l r := by
  unfold inB
  cases e : hasB l r
  · simp
  · have := h.low e; simp; omega

/-- What IsWide, IsZero, Kind tell. -/
def kindS (r : Int) : Int := if hasB controlT r then 1 else if hasB bidiT r then 2 else if hasB formatT r then 3 else if hasB separatorT r then 4 else 0
def sizeS (r : Int) : Int := if hasB wideT r then 2 else if hasB zeroT r then 0 else 1
/-- The four tables of the kinds, one behind the other. -/
def unsafeT : List Rg := controlT ++ bidiT ++ formatT ++ separatorT
/-- As the reference lists them. -/
def unsafeR : List Rg := [(0, 31), (127, 159), (8232, 8233)] ++ bidiT ++ formatT
theorem unsafe_has (r : Int) : hasB unsafeT r = decide (kindS r ≠ 0) := by
  unfold unsafeT kindS
  rw [hasB_append, hasB_append, hasB_append]
  cases hasB controlT r <;> cases hasB bidiT r <;> cases hasB formatT r <;> cases hasB separatorT r <;> rfl
theorem control_has (r : Int) : hasB controlT r = (decide (0 ≤ r ∧ r ≤ 31) || decide (127 ≤ r ∧ r ≤ 159)) := by simp [controlT, hasB]
theorem separator_has (r : Int) : hasB separatorT r = (decide (r = 8232) || decide (r = 8233)) := by
  rw [Bool.eq_iff_iff]; simp [separatorT, hasB]; omega
theorem kind_eq (r : Int) : kindS r = if 0 ≤ r ∧ r < 32 ∨ 126 < r ∧ r < 160 then 1 else if hasB bidiT r then 2 else if hasB formatT r then 3 else if r = 8232 ∨ r = 8233 then 4 else 0 := by
  unfold kindS
  rw [control_has, separator_has]
  by_cases h1 : 0 ≤ r ∧ r < 32 ∨ 126 < r ∧ r < 160
  · rw [if_pos h1, if_pos (by simp; omega)]
  · rw [if_neg h1, if_neg (by simp; omega)]
    by_cases h2 : r = 8232 ∨ r = 8233
    · simp only [if_pos h2, show (decide (r = 8232) || decide (r = 8233)) = true by simpa using h2, if_true]
    · simp only [if_neg h2, show (decide (r = 8232) || decide (r = 8233)) = false by simpa using h2, if_false, Bool.false_eq_true]
theorem unsafeR_has (r : Int) : hasB unsafeR r = hasB unsafeT r := by
  unfold unsafeT unsafeR
  rw [hasB_append, hasB_append, hasB_append, hasB_append, hasB_append,
    show ([(0, 31), (127, 159), (8232, 8233)] : List Rg) = controlT ++ separatorT from rfl, hasB_append]
  cases hasB controlT r <;> cases hasB bidiT r <;> cases hasB formatT r <;> cases hasB separatorT r <;> rfl
theorem kind_bd (r : Int) : 0 ≤ kindS r ∧ kindS r ≤ 4 := by unfold kindS; (repeat' split) <;> omega
theorem size_bd (r : Int) : 0 ≤ sizeS r ∧ sizeS r ≤ 2 := by unfold sizeS; (repeat' split) <;> omega
theorem size_wide (r : Int) : decide (sizeS r = 2) = hasB wideT r := by unfold sizeS; cases hasB wideT r <;> cases hasB zeroT r <;> rfl
theorem size_zero (r : Int) : decide (sizeS r = 0) = hasB zeroT r := by
  have := wide_zero r
  unfold sizeS
  cases h1 : hasB wideT r <;> cases h2 : hasB zeroT r <;> simp_all
end Go.Proofs.YtmchgimbfdeaiaaGreat.Ran
