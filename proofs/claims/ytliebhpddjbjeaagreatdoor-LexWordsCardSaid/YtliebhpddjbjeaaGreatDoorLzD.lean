/- Package lex, walked: symbols. -/
import Derived.Test.YtliebhpddjbjeaaGreatDoorLzC
namespace Go.Proofs.YtliebhpddjbjeaaGreatDoor
open Go.RowKit
set_option maxHeartbeats 1000000
set_option maxRecDepth 100000
set_option linter.unusedVariables false

/-- The one way to write the symbol that stands at the beginning, and how many bytes it has. -/
def symL (u : List UInt8) : List UInt8 × Nat := if symb u = 0 then ([], 0) else ((plainT (u.take (symb u))).x, symb u)
theorem two_no (c : UInt8) (r : List UInt8) (h1 : c ≠ 58) (h2 : c ≠ 60) (h3 : c ≠ 62) (h4 : c ≠ 46) : syms2.contains ((c :: r).take 2) = false := by
  cases r with
  | nil => simp [syms2]
  | cons d t => simp [syms2, h1, h2, h3, h4]
theorem symb_cons (c : UInt8) (r : List UInt8) : symb (c :: r) = if syms2.contains ((c :: r).take 2) then 2 else if syms1.contains c then 1 else 0 := rfl
theorem symL_one (c : UInt8) (r : List UInt8) (x : List UInt8) (h : syms2.contains ((c :: r).take 2) = false) (h1 : syms1.contains c = true) (hx : (plainT [c]).x = x) : symL (c :: r) = (x, 1) := by
  have e : symb (c :: r) = 1 := by rw [symb_cons, h, h1]; rfl
  unfold symL
  rw [e, if_neg (by decide)]
  show ((plainT [c]).x, 1) = (x, 1)
  rw [hx]
theorem symL_two (c d : UInt8) (r : List UInt8) (x : List UInt8) (h : syms2.contains [c, d] = true) (hx : (plainT [c, d]).x = x) : symL (c :: d :: r) = (x, 2) := by
  have e : symb (c :: d :: r) = 2 := by rw [symb_cons]; show (if syms2.contains [c, d] then 2 else _) = 2; rw [h]; rfl
  unfold symL
  rw [e, if_neg (by decide)]
  show ((plainT [c, d]).x, 2) = (x, 2)
  rw [hx]
theorem symL_none (c : UInt8) (r : List UInt8) (h : syms2.contains ((c :: r).take 2) = false) (h1 : syms1.contains c = false) : symL (c :: r) = ([], 0) := by
  have e : symb (c :: r) = 0 := by rw [symb_cons, h, h1]; rfl
  unfold symL
  rw [e, if_pos rfl]
theorem pre2 (c d : UInt8) (r : List UInt8) (h : Lib.hasPrefix (c :: r) [c, d] = true) : ∃ t, r = d :: t := by
  unfold Lib.hasPrefix at h
  cases r with
  | nil => simp [List.isPrefixOf] at h
  | cons e t =>
    have : d = e := by simpa [List.isPrefixOf] using h
    exact ⟨t, by rw [this]⟩
theorem pre2_no (c d : UInt8) (r : List UInt8) (h : Lib.hasPrefix (c :: r) [c, d] = false) : ∀ t, r ≠ d :: t := by
  rintro t rfl
  unfold Lib.hasPrefix at h
  simp [List.isPrefixOf] at h
theorem pre1 (d : UInt8) (r : List UInt8) (h : Lib.hasPrefix r [d] = true) : ∃ t, r = d :: t := by
  unfold Lib.hasPrefix at h
  cases r with
  | nil => simp [List.isPrefixOf] at h
  | cons e t =>
    have : d = e := by simpa [List.isPrefixOf] using h
    exact ⟨t, by rw [this]⟩
theorem pre1_no (d : UInt8) (r : List UInt8) (h : Lib.hasPrefix r [d] = false) : ∀ t, r ≠ d :: t := by
  rintro t rfl
  unfold Lib.hasPrefix at h
  simp [List.isPrefixOf] at h
theorem byte_is (c : UInt8) (k : Nat) (h : c = UInt8.ofNat k) (hk : k < 256 := by decide) : ((c.toNat : Int) == (k : Int)) = true := by
  subst h
  have : (UInt8.ofNat k).toNat = k := by simp; omega
  rw [this]; simp
theorem ext_one (s : ByteArray) (c : UInt8) (r : List UInt8) (h : s.data.toList = c :: r) : (s.extract 1 s.size).data.toList = r ∧ s.extract 0 1 = ⟨#[c]⟩ := by
  have hl := bytes_of s
  rw [h] at hl
  simp only [List.length_cons] at hl
  constructor
  · rw [ByteArray.data_extract, Array.toList_extract, List.extract_eq_take_drop, h, List.drop_one, List.tail_cons, List.take_of_length_le (by omega)]
  · apply ByteArray.ext
    rw [← Array.toList_inj, extract_take' s 1 (by omega), h]; rfl
theorem ext_two (s : ByteArray) (c d : UInt8) (r : List UInt8) (h : s.data.toList = c :: d :: r) : s.extract 0 2 = ⟨#[c, d]⟩ ∧ 2 ≤ s.size := by
  have hl := bytes_of s
  rw [h] at hl
  simp only [List.length_cons] at hl
  refine ⟨?_, by omega⟩
  apply ByteArray.ext
  rw [← Array.toList_inj, extract_take' s 2 (by omega), h]; rfl
/-- What symbol answers. -/
def SymPost (u : List UInt8) (w : World) (e : Ending) (w' : World) : Prop := e = .returned (.tuple #[.string ⟨(symL u).1.toArray⟩, .int .i64 (symL u).2]) ∧ w' = w
theorem sym_38 (s : ByteArray) (hs : s.size ≤ 1048576) (h0 : 0 < s.size) (r : List UInt8) (c : UInt8) (hc : s[0] = c) (hk : c = UInt8.ofNat 38) (hu : s.data.toList = c :: r) (w : World) :
    Calls Tryz.prog 114 #[.string s] w (SymPost (c :: r) w) := by
  have HT := Lib.hid (symL_one c r [65, 78, 68] (two_no c r (by rw [hk]; decide) (by rw [hk]; decide) (by rw [hk]; decide) (by rw [hk]; decide)) (by rw [hk]; decide) (by rw [hk]; decide))
  have q38 := byte_is c 38 hk
  clear hu
  clear hk
  go_enter Tryz.func114, Tryz.ntmps114
  go_wp2_with fail
  go_ret2
  exact ⟨by rw [HT.out]; rfl, rfl⟩
theorem sym_126 (s : ByteArray) (hs : s.size ≤ 1048576) (h0 : 0 < s.size) (r : List UInt8) (c : UInt8) (hc : s[0] = c) (hk : c = UInt8.ofNat 126) (hu : s.data.toList = c :: r) (w : World) :
    Calls Tryz.prog 114 #[.string s] w (SymPost (c :: r) w) := by
  have HT := Lib.hid (symL_one c r [78, 79, 84] (two_no c r (by rw [hk]; decide) (by rw [hk]; decide) (by rw [hk]; decide) (by rw [hk]; decide)) (by rw [hk]; decide) (by rw [hk]; decide))
  have q38 := byte_no c 38 (by rw [hk]; decide)
  have q126 := byte_is c 126 hk
  clear hu
  clear hk
  go_enter Tryz.func114, Tryz.ntmps114
  go_wp2_with fail
  go_ret2
  exact ⟨by rw [HT.out]; rfl, rfl⟩
theorem sym_43 (s : ByteArray) (hs : s.size ≤ 1048576) (h0 : 0 < s.size) (r : List UInt8) (c : UInt8) (hc : s[0] = c) (hk : c = UInt8.ofNat 43) (hu : s.data.toList = c :: r) (w : World) :
    Calls Tryz.prog 114 #[.string s] w (SymPost (c :: r) w) := by
  have HT := Lib.hid (symL_one c r [43] (two_no c r (by rw [hk]; decide) (by rw [hk]; decide) (by rw [hk]; decide) (by rw [hk]; decide)) (by rw [hk]; decide) (by rw [hk]; decide))
  have HX := Lib.hid (ext_one s c r hu).2
  have HK := Lib.hid hk
  have q38 := byte_no c 38 (by rw [hk]; decide)
  have q126 := byte_no c 126 (by rw [hk]; decide)
  have q46 := byte_no c 46 (by rw [hk]; decide)
  have q60 := byte_no c 60 (by rw [hk]; decide)
  have q62 := byte_no c 62 (by rw [hk]; decide)
  have q58 := byte_no c 58 (by rw [hk]; decide)
  have q43 := byte_is c 43 hk
  clear hu
  clear hk
  go_enter Tryz.func114, Tryz.ntmps114
  go_wp2_with fail
  go_ret2
  exact ⟨by rw [HT.out, HX.out, HK.out]; rfl, rfl⟩
theorem sym_45 (s : ByteArray) (hs : s.size ≤ 1048576) (h0 : 0 < s.size) (r : List UInt8) (c : UInt8) (hc : s[0] = c) (hk : c = UInt8.ofNat 45) (hu : s.data.toList = c :: r) (w : World) :
    Calls Tryz.prog 114 #[.string s] w (SymPost (c :: r) w) := by
  have HT := Lib.hid (symL_one c r [45] (two_no c r (by rw [hk]; decide) (by rw [hk]; decide) (by rw [hk]; decide) (by rw [hk]; decide)) (by rw [hk]; decide) (by rw [hk]; decide))
  have HX := Lib.hid (ext_one s c r hu).2
  have HK := Lib.hid hk
  have q38 := byte_no c 38 (by rw [hk]; decide)
  have q126 := byte_no c 126 (by rw [hk]; decide)
  have q46 := byte_no c 46 (by rw [hk]; decide)
  have q60 := byte_no c 60 (by rw [hk]; decide)
  have q62 := byte_no c 62 (by rw [hk]; decide)
  have q58 := byte_no c 58 (by rw [hk]; decide)
  have q43 := byte_no c 43 (by rw [hk]; decide)
  have q45 := byte_is c 45 hk
  clear hu
  clear hk
  go_enter Tryz.func114, Tryz.ntmps114
  go_wp2_with fail
  go_ret2
  exact ⟨by rw [HT.out, HX.out, HK.out]; rfl, rfl⟩
theorem sym_42 (s : ByteArray) (hs : s.size ≤ 1048576) (h0 : 0 < s.size) (r : List UInt8) (c : UInt8) (hc : s[0] = c) (hk : c = UInt8.ofNat 42) (hu : s.data.toList = c :: r) (w : World) :
    Calls Tryz.prog 114 #[.string s] w (SymPost (c :: r) w) := by
  have HT := Lib.hid (symL_one c r [42] (two_no c r (by rw [hk]; decide) (by rw [hk]; decide) (by rw [hk]; decide) (by rw [hk]; decide)) (by rw [hk]; decide) (by rw [hk]; decide))
  have HX := Lib.hid (ext_one s c r hu).2
  have HK := Lib.hid hk
  have q38 := byte_no c 38 (by rw [hk]; decide)
  have q126 := byte_no c 126 (by rw [hk]; decide)
  have q46 := byte_no c 46 (by rw [hk]; decide)
  have q60 := byte_no c 60 (by rw [hk]; decide)
  have q62 := byte_no c 62 (by rw [hk]; decide)
  have q58 := byte_no c 58 (by rw [hk]; decide)
  have q43 := byte_no c 43 (by rw [hk]; decide)
  have q45 := byte_no c 45 (by rw [hk]; decide)
  have q42 := byte_is c 42 hk
  clear hu
  clear hk
  go_enter Tryz.func114, Tryz.ntmps114
  go_wp2_with fail
  go_ret2
  exact ⟨by rw [HT.out, HX.out, HK.out]; rfl, rfl⟩
theorem sym_47 (s : ByteArray) (hs : s.size ≤ 1048576) (h0 : 0 < s.size) (r : List UInt8) (c : UInt8) (hc : s[0] = c) (hk : c = UInt8.ofNat 47) (hu : s.data.toList = c :: r) (w : World) :
    Calls Tryz.prog 114 #[.string s] w (SymPost (c :: r) w) := by
  have HT := Lib.hid (symL_one c r [47] (two_no c r (by rw [hk]; decide) (by rw [hk]; decide) (by rw [hk]; decide) (by rw [hk]; decide)) (by rw [hk]; decide) (by rw [hk]; decide))
  have HX := Lib.hid (ext_one s c r hu).2
  have HK := Lib.hid hk
  have q38 := byte_no c 38 (by rw [hk]; decide)
  have q126 := byte_no c 126 (by rw [hk]; decide)
  have q46 := byte_no c 46 (by rw [hk]; decide)
  have q60 := byte_no c 60 (by rw [hk]; decide)
  have q62 := byte_no c 62 (by rw [hk]; decide)
  have q58 := byte_no c 58 (by rw [hk]; decide)
  have q43 := byte_no c 43 (by rw [hk]; decide)
  have q45 := byte_no c 45 (by rw [hk]; decide)
  have q42 := byte_no c 42 (by rw [hk]; decide)
  have q47 := byte_is c 47 hk
  clear hu
  clear hk
  go_enter Tryz.func114, Tryz.ntmps114
  go_wp2_with fail
  go_ret2
  exact ⟨by rw [HT.out, HX.out, HK.out]; rfl, rfl⟩
theorem sym_44 (s : ByteArray) (hs : s.size ≤ 1048576) (h0 : 0 < s.size) (r : List UInt8) (c : UInt8) (hc : s[0] = c) (hk : c = UInt8.ofNat 44) (hu : s.data.toList = c :: r) (w : World) :
    Calls Tryz.prog 114 #[.string s] w (SymPost (c :: r) w) := by
  have HT := Lib.hid (symL_one c r [44] (two_no c r (by rw [hk]; decide) (by rw [hk]; decide) (by rw [hk]; decide) (by rw [hk]; decide)) (by rw [hk]; decide) (by rw [hk]; decide))
  have HX := Lib.hid (ext_one s c r hu).2
  have HK := Lib.hid hk
  have q38 := byte_no c 38 (by rw [hk]; decide)
  have q126 := byte_no c 126 (by rw [hk]; decide)
  have q46 := byte_no c 46 (by rw [hk]; decide)
  have q60 := byte_no c 60 (by rw [hk]; decide)
  have q62 := byte_no c 62 (by rw [hk]; decide)
  have q58 := byte_no c 58 (by rw [hk]; decide)
  have q43 := byte_no c 43 (by rw [hk]; decide)
  have q45 := byte_no c 45 (by rw [hk]; decide)
  have q42 := byte_no c 42 (by rw [hk]; decide)
  have q47 := byte_no c 47 (by rw [hk]; decide)
  have q44 := byte_is c 44 hk
  clear hu
  clear hk
  go_enter Tryz.func114, Tryz.ntmps114
  go_wp2_with fail
  go_ret2
  exact ⟨by rw [HT.out, HX.out, HK.out]; rfl, rfl⟩
theorem sym_59 (s : ByteArray) (hs : s.size ≤ 1048576) (h0 : 0 < s.size) (r : List UInt8) (c : UInt8) (hc : s[0] = c) (hk : c = UInt8.ofNat 59) (hu : s.data.toList = c :: r) (w : World) :
    Calls Tryz.prog 114 #[.string s] w (SymPost (c :: r) w) := by
  have HT := Lib.hid (symL_one c r [59] (two_no c r (by rw [hk]; decide) (by rw [hk]; decide) (by rw [hk]; decide) (by rw [hk]; decide)) (by rw [hk]; decide) (by rw [hk]; decide))
  have HX := Lib.hid (ext_one s c r hu).2
  have HK := Lib.hid hk
  have q38 := byte_no c 38 (by rw [hk]; decide)
  have q126 := byte_no c 126 (by rw [hk]; decide)
  have q46 := byte_no c 46 (by rw [hk]; decide)
  have q60 := byte_no c 60 (by rw [hk]; decide)
  have q62 := byte_no c 62 (by rw [hk]; decide)
  have q58 := byte_no c 58 (by rw [hk]; decide)
  have q43 := byte_no c 43 (by rw [hk]; decide)
  have q45 := byte_no c 45 (by rw [hk]; decide)
  have q42 := byte_no c 42 (by rw [hk]; decide)
  have q47 := byte_no c 47 (by rw [hk]; decide)
  have q44 := byte_no c 44 (by rw [hk]; decide)
  have q59 := byte_is c 59 hk
  clear hu
  clear hk
  go_enter Tryz.func114, Tryz.ntmps114
  go_wp2_with fail
  go_ret2
  exact ⟨by rw [HT.out, HX.out, HK.out]; rfl, rfl⟩
theorem sym_40 (s : ByteArray) (hs : s.size ≤ 1048576) (h0 : 0 < s.size) (r : List UInt8) (c : UInt8) (hc : s[0] = c) (hk : c = UInt8.ofNat 40) (hu : s.data.toList = c :: r) (w : World) :
    Calls Tryz.prog 114 #[.string s] w (SymPost (c :: r) w) := by
  have HT := Lib.hid (symL_one c r [40] (two_no c r (by rw [hk]; decide) (by rw [hk]; decide) (by rw [hk]; decide) (by rw [hk]; decide)) (by rw [hk]; decide) (by rw [hk]; decide))
  have HX := Lib.hid (ext_one s c r hu).2
  have HK := Lib.hid hk
  have q38 := byte_no c 38 (by rw [hk]; decide)
  have q126 := byte_no c 126 (by rw [hk]; decide)
  have q46 := byte_no c 46 (by rw [hk]; decide)
  have q60 := byte_no c 60 (by rw [hk]; decide)
  have q62 := byte_no c 62 (by rw [hk]; decide)
  have q58 := byte_no c 58 (by rw [hk]; decide)
  have q43 := byte_no c 43 (by rw [hk]; decide)
  have q45 := byte_no c 45 (by rw [hk]; decide)
  have q42 := byte_no c 42 (by rw [hk]; decide)
  have q47 := byte_no c 47 (by rw [hk]; decide)
  have q44 := byte_no c 44 (by rw [hk]; decide)
  have q59 := byte_no c 59 (by rw [hk]; decide)
  have q40 := byte_is c 40 hk
  clear hu
  clear hk
  go_enter Tryz.func114, Tryz.ntmps114
  go_wp2_with fail
  go_ret2
  exact ⟨by rw [HT.out, HX.out, HK.out]; rfl, rfl⟩
theorem sym_91 (s : ByteArray) (hs : s.size ≤ 1048576) (h0 : 0 < s.size) (r : List UInt8) (c : UInt8) (hc : s[0] = c) (hk : c = UInt8.ofNat 91) (hu : s.data.toList = c :: r) (w : World) :
    Calls Tryz.prog 114 #[.string s] w (SymPost (c :: r) w) := by
  have HT := Lib.hid (symL_one c r [91] (two_no c r (by rw [hk]; decide) (by rw [hk]; decide) (by rw [hk]; decide) (by rw [hk]; decide)) (by rw [hk]; decide) (by rw [hk]; decide))
  have HX := Lib.hid (ext_one s c r hu).2
  have HK := Lib.hid hk
  have q38 := byte_no c 38 (by rw [hk]; decide)
  have q126 := byte_no c 126 (by rw [hk]; decide)
  have q46 := byte_no c 46 (by rw [hk]; decide)
  have q60 := byte_no c 60 (by rw [hk]; decide)
  have q62 := byte_no c 62 (by rw [hk]; decide)
  have q58 := byte_no c 58 (by rw [hk]; decide)
  have q43 := byte_no c 43 (by rw [hk]; decide)
  have q45 := byte_no c 45 (by rw [hk]; decide)
  have q42 := byte_no c 42 (by rw [hk]; decide)
  have q47 := byte_no c 47 (by rw [hk]; decide)
  have q44 := byte_no c 44 (by rw [hk]; decide)
  have q59 := byte_no c 59 (by rw [hk]; decide)
  have q40 := byte_no c 40 (by rw [hk]; decide)
  have q91 := byte_is c 91 hk
  clear hu
  clear hk
  go_enter Tryz.func114, Tryz.ntmps114
  go_wp2_with fail
  go_ret2
  exact ⟨by rw [HT.out, HX.out, HK.out]; rfl, rfl⟩
theorem sym_123 (s : ByteArray) (hs : s.size ≤ 1048576) (h0 : 0 < s.size) (r : List UInt8) (c : UInt8) (hc : s[0] = c) (hk : c = UInt8.ofNat 123) (hu : s.data.toList = c :: r) (w : World) :
    Calls Tryz.prog 114 #[.string s] w (SymPost (c :: r) w) := by
  have HT := Lib.hid (symL_one c r [123] (two_no c r (by rw [hk]; decide) (by rw [hk]; decide) (by rw [hk]; decide) (by rw [hk]; decide)) (by rw [hk]; decide) (by rw [hk]; decide))
  have HX := Lib.hid (ext_one s c r hu).2
  have HK := Lib.hid hk
  have q38 := byte_no c 38 (by rw [hk]; decide)
  have q126 := byte_no c 126 (by rw [hk]; decide)
  have q46 := byte_no c 46 (by rw [hk]; decide)
  have q60 := byte_no c 60 (by rw [hk]; decide)
  have q62 := byte_no c 62 (by rw [hk]; decide)
  have q58 := byte_no c 58 (by rw [hk]; decide)
  have q43 := byte_no c 43 (by rw [hk]; decide)
  have q45 := byte_no c 45 (by rw [hk]; decide)
  have q42 := byte_no c 42 (by rw [hk]; decide)
  have q47 := byte_no c 47 (by rw [hk]; decide)
  have q44 := byte_no c 44 (by rw [hk]; decide)
  have q59 := byte_no c 59 (by rw [hk]; decide)
  have q40 := byte_no c 40 (by rw [hk]; decide)
  have q91 := byte_no c 91 (by rw [hk]; decide)
  have q123 := byte_is c 123 hk
  clear hu
  clear hk
  go_enter Tryz.func114, Tryz.ntmps114
  go_wp2_with fail
  go_ret2
  exact ⟨by rw [HT.out, HX.out, HK.out]; rfl, rfl⟩
theorem sym_94 (s : ByteArray) (hs : s.size ≤ 1048576) (h0 : 0 < s.size) (r : List UInt8) (c : UInt8) (hc : s[0] = c) (hk : c = UInt8.ofNat 94) (hu : s.data.toList = c :: r) (w : World) :
    Calls Tryz.prog 114 #[.string s] w (SymPost (c :: r) w) := by
  have HT := Lib.hid (symL_one c r [94] (two_no c r (by rw [hk]; decide) (by rw [hk]; decide) (by rw [hk]; decide) (by rw [hk]; decide)) (by rw [hk]; decide) (by rw [hk]; decide))
  have HX := Lib.hid (ext_one s c r hu).2
  have HK := Lib.hid hk
  have q38 := byte_no c 38 (by rw [hk]; decide)
  have q126 := byte_no c 126 (by rw [hk]; decide)
  have q46 := byte_no c 46 (by rw [hk]; decide)
  have q60 := byte_no c 60 (by rw [hk]; decide)
  have q62 := byte_no c 62 (by rw [hk]; decide)
  have q58 := byte_no c 58 (by rw [hk]; decide)
  have q43 := byte_no c 43 (by rw [hk]; decide)
  have q45 := byte_no c 45 (by rw [hk]; decide)
  have q42 := byte_no c 42 (by rw [hk]; decide)
  have q47 := byte_no c 47 (by rw [hk]; decide)
  have q44 := byte_no c 44 (by rw [hk]; decide)
  have q59 := byte_no c 59 (by rw [hk]; decide)
  have q40 := byte_no c 40 (by rw [hk]; decide)
  have q91 := byte_no c 91 (by rw [hk]; decide)
  have q123 := byte_no c 123 (by rw [hk]; decide)
  have q94 := byte_is c 94 hk
  clear hu
  clear hk
  go_enter Tryz.func114, Tryz.ntmps114
  go_wp2_with fail
  go_ret2
  exact ⟨by rw [HT.out, HX.out, HK.out]; rfl, rfl⟩
theorem sym_61 (s : ByteArray) (hs : s.size ≤ 1048576) (h0 : 0 < s.size) (r : List UInt8) (c : UInt8) (hc : s[0] = c) (hk : c = UInt8.ofNat 61) (hu : s.data.toList = c :: r) (w : World) :
    Calls Tryz.prog 114 #[.string s] w (SymPost (c :: r) w) := by
  have HT := Lib.hid (symL_one c r [61] (two_no c r (by rw [hk]; decide) (by rw [hk]; decide) (by rw [hk]; decide) (by rw [hk]; decide)) (by rw [hk]; decide) (by rw [hk]; decide))
  have HX := Lib.hid (ext_one s c r hu).2
  have HK := Lib.hid hk
  have q38 := byte_no c 38 (by rw [hk]; decide)
  have q126 := byte_no c 126 (by rw [hk]; decide)
  have q46 := byte_no c 46 (by rw [hk]; decide)
  have q60 := byte_no c 60 (by rw [hk]; decide)
  have q62 := byte_no c 62 (by rw [hk]; decide)
  have q58 := byte_no c 58 (by rw [hk]; decide)
  have q43 := byte_no c 43 (by rw [hk]; decide)
  have q45 := byte_no c 45 (by rw [hk]; decide)
  have q42 := byte_no c 42 (by rw [hk]; decide)
  have q47 := byte_no c 47 (by rw [hk]; decide)
  have q44 := byte_no c 44 (by rw [hk]; decide)
  have q59 := byte_no c 59 (by rw [hk]; decide)
  have q40 := byte_no c 40 (by rw [hk]; decide)
  have q91 := byte_no c 91 (by rw [hk]; decide)
  have q123 := byte_no c 123 (by rw [hk]; decide)
  have q94 := byte_no c 94 (by rw [hk]; decide)
  have q61 := byte_is c 61 hk
  clear hu
  clear hk
  go_enter Tryz.func114, Tryz.ntmps114
  go_wp2_with fail
  go_ret2
  exact ⟨by rw [HT.out, HX.out, HK.out]; rfl, rfl⟩
theorem sym_35 (s : ByteArray) (hs : s.size ≤ 1048576) (h0 : 0 < s.size) (r : List UInt8) (c : UInt8) (hc : s[0] = c) (hk : c = UInt8.ofNat 35) (hu : s.data.toList = c :: r) (w : World) :
    Calls Tryz.prog 114 #[.string s] w (SymPost (c :: r) w) := by
  have HT := Lib.hid (symL_one c r [35] (two_no c r (by rw [hk]; decide) (by rw [hk]; decide) (by rw [hk]; decide) (by rw [hk]; decide)) (by rw [hk]; decide) (by rw [hk]; decide))
  have HX := Lib.hid (ext_one s c r hu).2
  have HK := Lib.hid hk
  have q38 := byte_no c 38 (by rw [hk]; decide)
  have q126 := byte_no c 126 (by rw [hk]; decide)
  have q46 := byte_no c 46 (by rw [hk]; decide)
  have q60 := byte_no c 60 (by rw [hk]; decide)
  have q62 := byte_no c 62 (by rw [hk]; decide)
  have q58 := byte_no c 58 (by rw [hk]; decide)
  have q43 := byte_no c 43 (by rw [hk]; decide)
  have q45 := byte_no c 45 (by rw [hk]; decide)
  have q42 := byte_no c 42 (by rw [hk]; decide)
  have q47 := byte_no c 47 (by rw [hk]; decide)
  have q44 := byte_no c 44 (by rw [hk]; decide)
  have q59 := byte_no c 59 (by rw [hk]; decide)
  have q40 := byte_no c 40 (by rw [hk]; decide)
  have q91 := byte_no c 91 (by rw [hk]; decide)
  have q123 := byte_no c 123 (by rw [hk]; decide)
  have q94 := byte_no c 94 (by rw [hk]; decide)
  have q61 := byte_no c 61 (by rw [hk]; decide)
  have q35 := byte_is c 35 hk
  clear hu
  clear hk
  go_enter Tryz.func114, Tryz.ntmps114
  go_wp2_with fail
  go_ret2
  exact ⟨by rw [HT.out, HX.out, HK.out]; rfl, rfl⟩
theorem sym_41 (s : ByteArray) (hs : s.size ≤ 1048576) (h0 : 0 < s.size) (r : List UInt8) (c : UInt8) (hc : s[0] = c) (hk : c = UInt8.ofNat 41) (hu : s.data.toList = c :: r) (w : World) :
    Calls Tryz.prog 114 #[.string s] w (SymPost (c :: r) w) := by
  have HT := Lib.hid (symL_one c r [41] (two_no c r (by rw [hk]; decide) (by rw [hk]; decide) (by rw [hk]; decide) (by rw [hk]; decide)) (by rw [hk]; decide) (by rw [hk]; decide))
  have HX := Lib.hid (ext_one s c r hu).2
  have HK := Lib.hid hk
  have q38 := byte_no c 38 (by rw [hk]; decide)
  have q126 := byte_no c 126 (by rw [hk]; decide)
  have q46 := byte_no c 46 (by rw [hk]; decide)
  have q60 := byte_no c 60 (by rw [hk]; decide)
  have q62 := byte_no c 62 (by rw [hk]; decide)
  have q58 := byte_no c 58 (by rw [hk]; decide)
  have q43 := byte_no c 43 (by rw [hk]; decide)
  have q45 := byte_no c 45 (by rw [hk]; decide)
  have q42 := byte_no c 42 (by rw [hk]; decide)
  have q47 := byte_no c 47 (by rw [hk]; decide)
  have q44 := byte_no c 44 (by rw [hk]; decide)
  have q59 := byte_no c 59 (by rw [hk]; decide)
  have q40 := byte_no c 40 (by rw [hk]; decide)
  have q91 := byte_no c 91 (by rw [hk]; decide)
  have q123 := byte_no c 123 (by rw [hk]; decide)
  have q94 := byte_no c 94 (by rw [hk]; decide)
  have q61 := byte_no c 61 (by rw [hk]; decide)
  have q35 := byte_no c 35 (by rw [hk]; decide)
  have q41 := byte_is c 41 hk
  clear hu
  clear hk
  go_enter Tryz.func114, Tryz.ntmps114
  go_wp2_with fail
  go_ret2
  exact ⟨by rw [HT.out, HX.out, HK.out]; rfl, rfl⟩
theorem sym_93 (s : ByteArray) (hs : s.size ≤ 1048576) (h0 : 0 < s.size) (r : List UInt8) (c : UInt8) (hc : s[0] = c) (hk : c = UInt8.ofNat 93) (hu : s.data.toList = c :: r) (w : World) :
    Calls Tryz.prog 114 #[.string s] w (SymPost (c :: r) w) := by
  have HT := Lib.hid (symL_one c r [93] (two_no c r (by rw [hk]; decide) (by rw [hk]; decide) (by rw [hk]; decide) (by rw [hk]; decide)) (by rw [hk]; decide) (by rw [hk]; decide))
  have HX := Lib.hid (ext_one s c r hu).2
  have HK := Lib.hid hk
  have q38 := byte_no c 38 (by rw [hk]; decide)
  have q126 := byte_no c 126 (by rw [hk]; decide)
  have q46 := byte_no c 46 (by rw [hk]; decide)
  have q60 := byte_no c 60 (by rw [hk]; decide)
  have q62 := byte_no c 62 (by rw [hk]; decide)
  have q58 := byte_no c 58 (by rw [hk]; decide)
  have q43 := byte_no c 43 (by rw [hk]; decide)
  have q45 := byte_no c 45 (by rw [hk]; decide)
  have q42 := byte_no c 42 (by rw [hk]; decide)
  have q47 := byte_no c 47 (by rw [hk]; decide)
  have q44 := byte_no c 44 (by rw [hk]; decide)
  have q59 := byte_no c 59 (by rw [hk]; decide)
  have q40 := byte_no c 40 (by rw [hk]; decide)
  have q91 := byte_no c 91 (by rw [hk]; decide)
  have q123 := byte_no c 123 (by rw [hk]; decide)
  have q94 := byte_no c 94 (by rw [hk]; decide)
  have q61 := byte_no c 61 (by rw [hk]; decide)
  have q35 := byte_no c 35 (by rw [hk]; decide)
  have q41 := byte_no c 41 (by rw [hk]; decide)
  have q93 := byte_is c 93 hk
  clear hu
  clear hk
  go_enter Tryz.func114, Tryz.ntmps114
  go_wp2_with fail
  go_ret2
  exact ⟨by rw [HT.out, HX.out, HK.out]; rfl, rfl⟩
theorem sym_125 (s : ByteArray) (hs : s.size ≤ 1048576) (h0 : 0 < s.size) (r : List UInt8) (c : UInt8) (hc : s[0] = c) (hk : c = UInt8.ofNat 125) (hu : s.data.toList = c :: r) (w : World) :
    Calls Tryz.prog 114 #[.string s] w (SymPost (c :: r) w) := by
  have HT := Lib.hid (symL_one c r [125] (two_no c r (by rw [hk]; decide) (by rw [hk]; decide) (by rw [hk]; decide) (by rw [hk]; decide)) (by rw [hk]; decide) (by rw [hk]; decide))
  have HX := Lib.hid (ext_one s c r hu).2
  have HK := Lib.hid hk
  have q38 := byte_no c 38 (by rw [hk]; decide)
  have q126 := byte_no c 126 (by rw [hk]; decide)
  have q46 := byte_no c 46 (by rw [hk]; decide)
  have q60 := byte_no c 60 (by rw [hk]; decide)
  have q62 := byte_no c 62 (by rw [hk]; decide)
  have q58 := byte_no c 58 (by rw [hk]; decide)
  have q43 := byte_no c 43 (by rw [hk]; decide)
  have q45 := byte_no c 45 (by rw [hk]; decide)
  have q42 := byte_no c 42 (by rw [hk]; decide)
  have q47 := byte_no c 47 (by rw [hk]; decide)
  have q44 := byte_no c 44 (by rw [hk]; decide)
  have q59 := byte_no c 59 (by rw [hk]; decide)
  have q40 := byte_no c 40 (by rw [hk]; decide)
  have q91 := byte_no c 91 (by rw [hk]; decide)
  have q123 := byte_no c 123 (by rw [hk]; decide)
  have q94 := byte_no c 94 (by rw [hk]; decide)
  have q61 := byte_no c 61 (by rw [hk]; decide)
  have q35 := byte_no c 35 (by rw [hk]; decide)
  have q41 := byte_no c 41 (by rw [hk]; decide)
  have q93 := byte_no c 93 (by rw [hk]; decide)
  have q125 := byte_is c 125 hk
  clear hu
  clear hk
  go_enter Tryz.func114, Tryz.ntmps114
  go_wp2_with fail
  go_ret2
  exact ⟨by rw [HT.out, HX.out, HK.out]; rfl, rfl⟩
theorem sym_124 (s : ByteArray) (hs : s.size ≤ 1048576) (h0 : 0 < s.size) (r : List UInt8) (c : UInt8) (hc : s[0] = c) (hk : c = UInt8.ofNat 124) (hu : s.data.toList = c :: r) (w : World) :
    Calls Tryz.prog 114 #[.string s] w (SymPost (c :: r) w) := by
  have HT := Lib.hid (symL_one c r [124] (two_no c r (by rw [hk]; decide) (by rw [hk]; decide) (by rw [hk]; decide) (by rw [hk]; decide)) (by rw [hk]; decide) (by rw [hk]; decide))
  have HX := Lib.hid (ext_one s c r hu).2
  have HK := Lib.hid hk
  have q38 := byte_no c 38 (by rw [hk]; decide)
  have q126 := byte_no c 126 (by rw [hk]; decide)
  have q46 := byte_no c 46 (by rw [hk]; decide)
  have q60 := byte_no c 60 (by rw [hk]; decide)
  have q62 := byte_no c 62 (by rw [hk]; decide)
  have q58 := byte_no c 58 (by rw [hk]; decide)
  have q43 := byte_no c 43 (by rw [hk]; decide)
  have q45 := byte_no c 45 (by rw [hk]; decide)
  have q42 := byte_no c 42 (by rw [hk]; decide)
  have q47 := byte_no c 47 (by rw [hk]; decide)
  have q44 := byte_no c 44 (by rw [hk]; decide)
  have q59 := byte_no c 59 (by rw [hk]; decide)
  have q40 := byte_no c 40 (by rw [hk]; decide)
  have q91 := byte_no c 91 (by rw [hk]; decide)
  have q123 := byte_no c 123 (by rw [hk]; decide)
  have q94 := byte_no c 94 (by rw [hk]; decide)
  have q61 := byte_no c 61 (by rw [hk]; decide)
  have q35 := byte_no c 35 (by rw [hk]; decide)
  have q41 := byte_no c 41 (by rw [hk]; decide)
  have q93 := byte_no c 93 (by rw [hk]; decide)
  have q125 := byte_no c 125 (by rw [hk]; decide)
  have q124 := byte_is c 124 hk
  clear hu
  clear hk
  go_enter Tryz.func114, Tryz.ntmps114
  go_wp2_with fail
  go_ret2
  exact ⟨by rw [HT.out, HX.out, HK.out]; rfl, rfl⟩
theorem sym_46a (s : ByteArray) (hs : s.size ≤ 1048576) (h0 : 0 < s.size) (r : List UInt8) (c : UInt8) (hc : s[0] = c) (hk : c = UInt8.ofNat 46) (hu : s.data.toList = c :: r) (p0 : Lib.hasPrefix (c :: r) [46, 46] = true) (w : World) :
    Calls Tryz.prog 114 #[.string s] w (SymPost (c :: r) w) := by
  have hx1 : (1 : Int) ≤ (s.size : Int) := by omega
  have HK := Lib.hid hk
  have HP0 := fun w => Tryz.strings_HasPrefix s ⟨#[46, 46]⟩ w
  rw [hu] at HP0
  have HP0b : Hid (Lib.hasPrefix (c :: r) (ByteArray.mk #[46, 46]).data.toList = true) := Lib.hid p0
  rw [HP0b.out] at HP0
  have HT : Hid (symL (c :: r) = ([46, 46], 2)) := Lib.hid (by
    subst hk
    obtain ⟨t, rfl⟩ := pre2 46 46 r p0
    exact symL_two 46 46 t _ (by decide) (by decide))
  have q38 := byte_no c 38 (by rw [hk]; decide)
  have q126 := byte_no c 126 (by rw [hk]; decide)
  have q46 := byte_is c 46 hk
  clear hu p0 HP0b
  clear hk
  go_enter Tryz.func114, Tryz.ntmps114
  go_wp2_with fail
  refine (HP0 _).mono ?_
  rintro e w1 ⟨rfl, rfl⟩
  go_wp2_with fail
  go_ret2
  exact ⟨by rw [HT.out]; rfl, rfl⟩
theorem sym_46b (s : ByteArray) (hs : s.size ≤ 1048576) (h0 : 0 < s.size) (r : List UInt8) (c : UInt8) (hc : s[0] = c) (hk : c = UInt8.ofNat 46) (hu : s.data.toList = c :: r) (p0 : Lib.hasPrefix (c :: r) [46, 46] = false) (w : World) :
    Calls Tryz.prog 114 #[.string s] w (SymPost (c :: r) w) := by
  have hx1 : (1 : Int) ≤ (s.size : Int) := by omega
  have HK := Lib.hid hk
  have HP0 := fun w => Tryz.strings_HasPrefix s ⟨#[46, 46]⟩ w
  rw [hu] at HP0
  have HP0b : Hid (Lib.hasPrefix (c :: r) (ByteArray.mk #[46, 46]).data.toList = false) := Lib.hid p0
  rw [HP0b.out] at HP0
  have HT : Hid (symL (c :: r) = ([46], 1)) := Lib.hid (by
    subst hk
    have hn := pre2_no 46 46 r p0
    refine symL_one 46 r _ ?_ (by decide) (by decide)
    cases r with
    | nil => decide
    | cons d t => have : d ≠ 46 := fun h => hn t (by rw [h])
                  simp [syms2, this])
  have q38 := byte_no c 38 (by rw [hk]; decide)
  have q126 := byte_no c 126 (by rw [hk]; decide)
  have q46 := byte_is c 46 hk
  clear hu p0 HP0b
  clear hk
  go_enter Tryz.func114, Tryz.ntmps114
  go_wp2_with fail
  refine (HP0 _).mono ?_
  rintro e w1 ⟨rfl, rfl⟩
  go_wp2_with fail
  go_ret2
  exact ⟨by rw [HT.out]; rfl, rfl⟩
theorem sym_60a (s : ByteArray) (hs : s.size ≤ 1048576) (h0 : 0 < s.size) (r : List UInt8) (c : UInt8) (hc : s[0] = c) (hk : c = UInt8.ofNat 60) (hu : s.data.toList = c :: r) (p0 : Lib.hasPrefix (c :: r) [60, 62] = true) (w : World) :
    Calls Tryz.prog 114 #[.string s] w (SymPost (c :: r) w) := by
  have hx1 : (1 : Int) ≤ (s.size : Int) := by omega
  have HK := Lib.hid hk
  have HP0 := fun w => Tryz.strings_HasPrefix s ⟨#[60, 62]⟩ w
  rw [hu] at HP0
  have HP0b : Hid (Lib.hasPrefix (c :: r) (ByteArray.mk #[60, 62]).data.toList = true) := Lib.hid p0
  rw [HP0b.out] at HP0
  have HT : Hid (symL (c :: r) = ([35], 2)) := Lib.hid (by
    subst hk
    obtain ⟨t, rfl⟩ := pre2 60 62 r p0
    exact symL_two 60 62 t _ (by decide) (by decide))
  have q38 := byte_no c 38 (by rw [hk]; decide)
  have q126 := byte_no c 126 (by rw [hk]; decide)
  have q46 := byte_no c 46 (by rw [hk]; decide)
  have q60 := byte_is c 60 hk
  clear hu p0 HP0b
  clear hk
  go_enter Tryz.func114, Tryz.ntmps114
  go_wp2_with fail
  refine (HP0 _).mono ?_
  rintro e w1 ⟨rfl, rfl⟩
  go_wp2_with fail
  go_ret2
  exact ⟨by rw [HT.out]; rfl, rfl⟩
theorem sym_60b (s : ByteArray) (hs : s.size ≤ 1048576) (h0 : 0 < s.size) (r : List UInt8) (c : UInt8) (hc : s[0] = c) (hk : c = UInt8.ofNat 60) (hu : s.data.toList = c :: r) (p0 : Lib.hasPrefix (c :: r) [60, 62] = false) (p1 : Lib.hasPrefix r [61] = true) (w : World) :
    Calls Tryz.prog 114 #[.string s] w (SymPost (c :: r) w) := by
  have hx1 : (1 : Int) ≤ (s.size : Int) := by omega
  have HK := Lib.hid hk
  have HP0 := fun w => Tryz.strings_HasPrefix s ⟨#[60, 62]⟩ w
  rw [hu] at HP0
  have HP0b : Hid (Lib.hasPrefix (c :: r) (ByteArray.mk #[60, 62]).data.toList = false) := Lib.hid p0
  rw [HP0b.out] at HP0
  have HP1 := fun w => Tryz.strings_HasPrefix (s.extract 1 s.size) ⟨#[61]⟩ w
  rw [(ext_one s c r hu).1] at HP1
  have HP1b : Hid (Lib.hasPrefix r (ByteArray.mk #[61]).data.toList = true) := Lib.hid p1
  rw [HP1b.out] at HP1
  have HT : Hid (symL (c :: r) = ([60, 61], 2)) := Lib.hid (by
    subst hk
    obtain ⟨t, rfl⟩ := pre1 61 r p1
    exact symL_two 60 61 t _ (by decide) (by decide))
  have hx2 : (2 : Int) ≤ (s.size : Int) := by
    obtain ⟨t, rfl⟩ := pre1 61 r p1
    have := (ext_two s c 61 t hu).2; omega
  have HX : Hid (s.extract 0 2 = ⟨#[c, 61]⟩) := Lib.hid (by
    obtain ⟨t, rfl⟩ := pre1 61 r p1
    exact (ext_two s c 61 t hu).1)
  have q38 := byte_no c 38 (by rw [hk]; decide)
  have q126 := byte_no c 126 (by rw [hk]; decide)
  have q46 := byte_no c 46 (by rw [hk]; decide)
  have q60 := byte_is c 60 hk
  clear hu p0 HP0b p1 HP1b
  clear hk
  go_enter Tryz.func114, Tryz.ntmps114
  go_wp2_with fail
  refine (HP0 _).mono ?_
  rintro e w1 ⟨rfl, rfl⟩
  go_wp2_with fail
  refine (HP1 _).mono ?_
  rintro e w2 ⟨rfl, rfl⟩
  go_wp2_with fail
  go_ret2
  exact ⟨by rw [HT.out, HX.out, HK.out]; rfl, rfl⟩
theorem sym_60c (s : ByteArray) (hs : s.size ≤ 1048576) (h0 : 0 < s.size) (r : List UInt8) (c : UInt8) (hc : s[0] = c) (hk : c = UInt8.ofNat 60) (hu : s.data.toList = c :: r) (p0 : Lib.hasPrefix (c :: r) [60, 62] = false) (p1 : Lib.hasPrefix r [61] = false) (w : World) :
    Calls Tryz.prog 114 #[.string s] w (SymPost (c :: r) w) := by
  have hx1 : (1 : Int) ≤ (s.size : Int) := by omega
  have HK := Lib.hid hk
  have HP0 := fun w => Tryz.strings_HasPrefix s ⟨#[60, 62]⟩ w
  rw [hu] at HP0
  have HP0b : Hid (Lib.hasPrefix (c :: r) (ByteArray.mk #[60, 62]).data.toList = false) := Lib.hid p0
  rw [HP0b.out] at HP0
  have HP1 := fun w => Tryz.strings_HasPrefix (s.extract 1 s.size) ⟨#[61]⟩ w
  rw [(ext_one s c r hu).1] at HP1
  have HP1b : Hid (Lib.hasPrefix r (ByteArray.mk #[61]).data.toList = false) := Lib.hid p1
  rw [HP1b.out] at HP1
  have HT : Hid (symL (c :: r) = ([60], 1)) := Lib.hid (by
    subst hk
    have hn := pre2_no 60 62 r p0
    have hm := pre1_no 61 r p1
    refine symL_one 60 r _ ?_ (by decide) (by decide)
    cases r with
    | nil => decide
    | cons d t => have g1 : d ≠ 62 := fun h => hn t (by rw [h])
                  have g2 : d ≠ 61 := fun h => hm t (by rw [h])
                  simp [syms2, g1, g2])
  have HX := Lib.hid (ext_one s c r hu).2
  have q38 := byte_no c 38 (by rw [hk]; decide)
  have q126 := byte_no c 126 (by rw [hk]; decide)
  have q46 := byte_no c 46 (by rw [hk]; decide)
  have q60 := byte_is c 60 hk
  clear hu p0 HP0b p1 HP1b
  clear hk
  go_enter Tryz.func114, Tryz.ntmps114
  go_wp2_with fail
  refine (HP0 _).mono ?_
  rintro e w1 ⟨rfl, rfl⟩
  go_wp2_with fail
  refine (HP1 _).mono ?_
  rintro e w2 ⟨rfl, rfl⟩
  go_wp2_with fail
  go_ret2
  exact ⟨by rw [HT.out, HX.out, HK.out]; rfl, rfl⟩
theorem sym_62a (s : ByteArray) (hs : s.size ≤ 1048576) (h0 : 0 < s.size) (r : List UInt8) (c : UInt8) (hc : s[0] = c) (hk : c = UInt8.ofNat 62) (hu : s.data.toList = c :: r) (p0 : Lib.hasPrefix r [61] = true) (w : World) :
    Calls Tryz.prog 114 #[.string s] w (SymPost (c :: r) w) := by
  have hx1 : (1 : Int) ≤ (s.size : Int) := by omega
  have HK := Lib.hid hk
  have HP0 := fun w => Tryz.strings_HasPrefix (s.extract 1 s.size) ⟨#[61]⟩ w
  rw [(ext_one s c r hu).1] at HP0
  have HP0b : Hid (Lib.hasPrefix r (ByteArray.mk #[61]).data.toList = true) := Lib.hid p0
  rw [HP0b.out] at HP0
  have HT : Hid (symL (c :: r) = ([62, 61], 2)) := Lib.hid (by
    subst hk
    obtain ⟨t, rfl⟩ := pre1 61 r p0
    exact symL_two 62 61 t _ (by decide) (by decide))
  have hx2 : (2 : Int) ≤ (s.size : Int) := by
    obtain ⟨t, rfl⟩ := pre1 61 r p0
    have := (ext_two s c 61 t hu).2; omega
  have HX : Hid (s.extract 0 2 = ⟨#[c, 61]⟩) := Lib.hid (by
    obtain ⟨t, rfl⟩ := pre1 61 r p0
    exact (ext_two s c 61 t hu).1)
  have q38 := byte_no c 38 (by rw [hk]; decide)
  have q126 := byte_no c 126 (by rw [hk]; decide)
  have q46 := byte_no c 46 (by rw [hk]; decide)
  have q60 := byte_no c 60 (by rw [hk]; decide)
  have q62 := byte_is c 62 hk
  clear hu p0 HP0b
  clear hk
  go_enter Tryz.func114, Tryz.ntmps114
  go_wp2_with fail
  refine (HP0 _).mono ?_
  rintro e w1 ⟨rfl, rfl⟩
  go_wp2_with fail
  go_ret2
  exact ⟨by rw [HT.out, HX.out, HK.out]; rfl, rfl⟩
theorem sym_62b (s : ByteArray) (hs : s.size ≤ 1048576) (h0 : 0 < s.size) (r : List UInt8) (c : UInt8) (hc : s[0] = c) (hk : c = UInt8.ofNat 62) (hu : s.data.toList = c :: r) (p0 : Lib.hasPrefix r [61] = false) (w : World) :
    Calls Tryz.prog 114 #[.string s] w (SymPost (c :: r) w) := by
  have hx1 : (1 : Int) ≤ (s.size : Int) := by omega
  have HK := Lib.hid hk
  have HP0 := fun w => Tryz.strings_HasPrefix (s.extract 1 s.size) ⟨#[61]⟩ w
  rw [(ext_one s c r hu).1] at HP0
  have HP0b : Hid (Lib.hasPrefix r (ByteArray.mk #[61]).data.toList = false) := Lib.hid p0
  rw [HP0b.out] at HP0
  have HT : Hid (symL (c :: r) = ([62], 1)) := Lib.hid (by
    subst hk
    have hm := pre1_no 61 r p0
    refine symL_one 62 r _ ?_ (by decide) (by decide)
    cases r with
    | nil => decide
    | cons d t => have g2 : d ≠ 61 := fun h => hm t (by rw [h])
                  simp [syms2, g2])
  have HX := Lib.hid (ext_one s c r hu).2
  have q38 := byte_no c 38 (by rw [hk]; decide)
  have q126 := byte_no c 126 (by rw [hk]; decide)
  have q46 := byte_no c 46 (by rw [hk]; decide)
  have q60 := byte_no c 60 (by rw [hk]; decide)
  have q62 := byte_is c 62 hk
  clear hu p0 HP0b
  clear hk
  go_enter Tryz.func114, Tryz.ntmps114
  go_wp2_with fail
  refine (HP0 _).mono ?_
  rintro e w1 ⟨rfl, rfl⟩
  go_wp2_with fail
  go_ret2
  exact ⟨by rw [HT.out, HX.out, HK.out]; rfl, rfl⟩
theorem sym_58a (s : ByteArray) (hs : s.size ≤ 1048576) (h0 : 0 < s.size) (r : List UInt8) (c : UInt8) (hc : s[0] = c) (hk : c = UInt8.ofNat 58) (hu : s.data.toList = c :: r) (p0 : Lib.hasPrefix r [61] = true) (w : World) :
    Calls Tryz.prog 114 #[.string s] w (SymPost (c :: r) w) := by
  have hx1 : (1 : Int) ≤ (s.size : Int) := by omega
  have HK := Lib.hid hk
  have HP0 := fun w => Tryz.strings_HasPrefix (s.extract 1 s.size) ⟨#[61]⟩ w
  rw [(ext_one s c r hu).1] at HP0
  have HP0b : Hid (Lib.hasPrefix r (ByteArray.mk #[61]).data.toList = true) := Lib.hid p0
  rw [HP0b.out] at HP0
  have HT : Hid (symL (c :: r) = ([58, 61], 2)) := Lib.hid (by
    subst hk
    obtain ⟨t, rfl⟩ := pre1 61 r p0
    exact symL_two 58 61 t _ (by decide) (by decide))
  have hx2 : (2 : Int) ≤ (s.size : Int) := by
    obtain ⟨t, rfl⟩ := pre1 61 r p0
    have := (ext_two s c 61 t hu).2; omega
  have HX : Hid (s.extract 0 2 = ⟨#[c, 61]⟩) := Lib.hid (by
    obtain ⟨t, rfl⟩ := pre1 61 r p0
    exact (ext_two s c 61 t hu).1)
  have q38 := byte_no c 38 (by rw [hk]; decide)
  have q126 := byte_no c 126 (by rw [hk]; decide)
  have q46 := byte_no c 46 (by rw [hk]; decide)
  have q60 := byte_no c 60 (by rw [hk]; decide)
  have q62 := byte_no c 62 (by rw [hk]; decide)
  have q58 := byte_is c 58 hk
  clear hu p0 HP0b
  clear hk
  go_enter Tryz.func114, Tryz.ntmps114
  go_wp2_with fail
  refine (HP0 _).mono ?_
  rintro e w1 ⟨rfl, rfl⟩
  go_wp2_with fail
  go_ret2
  exact ⟨by rw [HT.out, HX.out, HK.out]; rfl, rfl⟩
theorem sym_58b (s : ByteArray) (hs : s.size ≤ 1048576) (h0 : 0 < s.size) (r : List UInt8) (c : UInt8) (hc : s[0] = c) (hk : c = UInt8.ofNat 58) (hu : s.data.toList = c :: r) (p0 : Lib.hasPrefix r [61] = false) (w : World) :
    Calls Tryz.prog 114 #[.string s] w (SymPost (c :: r) w) := by
  have hx1 : (1 : Int) ≤ (s.size : Int) := by omega
  have HK := Lib.hid hk
  have HP0 := fun w => Tryz.strings_HasPrefix (s.extract 1 s.size) ⟨#[61]⟩ w
  rw [(ext_one s c r hu).1] at HP0
  have HP0b : Hid (Lib.hasPrefix r (ByteArray.mk #[61]).data.toList = false) := Lib.hid p0
  rw [HP0b.out] at HP0
  have HT : Hid (symL (c :: r) = ([58], 1)) := Lib.hid (by
    subst hk
    have hm := pre1_no 61 r p0
    refine symL_one 58 r _ ?_ (by decide) (by decide)
    cases r with
    | nil => decide
    | cons d t => have g2 : d ≠ 61 := fun h => hm t (by rw [h])
                  simp [syms2, g2])
  have HX := Lib.hid (ext_one s c r hu).2
  have q38 := byte_no c 38 (by rw [hk]; decide)
  have q126 := byte_no c 126 (by rw [hk]; decide)
  have q46 := byte_no c 46 (by rw [hk]; decide)
  have q60 := byte_no c 60 (by rw [hk]; decide)
  have q62 := byte_no c 62 (by rw [hk]; decide)
  have q58 := byte_is c 58 hk
  clear hu p0 HP0b
  clear hk
  go_enter Tryz.func114, Tryz.ntmps114
  go_wp2_with fail
  refine (HP0 _).mono ?_
  rintro e w1 ⟨rfl, rfl⟩
  go_wp2_with fail
  go_ret2
  exact ⟨by rw [HT.out, HX.out, HK.out]; rfl, rfl⟩
theorem sym_no (s : ByteArray) (hs : s.size ≤ 1048576) (h0 : 0 < s.size) (r : List UInt8) (c : UInt8) (hc : s[0] = c) (hu : s.data.toList = c :: r) (hn : syms1.contains c = false) (w : World) :
    Calls Tryz.prog 114 #[.string s] w (SymPost (c :: r) w) := by
  have hne : ∀ k : UInt8, k ∈ syms1 → c ≠ k := fun k hk h => by
    have : syms1.contains c = true := List.contains_iff_mem.2 (by rw [h]; exact hk)
    rw [hn] at this; cases this
  have HT := Lib.hid (symL_none c r (two_no c r (hne 58 (by decide)) (hne 60 (by decide)) (hne 62 (by decide)) (hne 46 (by decide))) hn)
  have q38 := byte_no c 38 (hne 38 (by decide))
  have q126 := byte_no c 126 (hne 126 (by decide))
  have q46 := byte_no c 46 (hne 46 (by decide))
  have q60 := byte_no c 60 (hne 60 (by decide))
  have q62 := byte_no c 62 (hne 62 (by decide))
  have q58 := byte_no c 58 (hne 58 (by decide))
  have q43 := byte_no c 43 (hne 43 (by decide))
  have q45 := byte_no c 45 (hne 45 (by decide))
  have q42 := byte_no c 42 (hne 42 (by decide))
  have q47 := byte_no c 47 (hne 47 (by decide))
  have q44 := byte_no c 44 (hne 44 (by decide))
  have q59 := byte_no c 59 (hne 59 (by decide))
  have q40 := byte_no c 40 (hne 40 (by decide))
  have q91 := byte_no c 91 (hne 91 (by decide))
  have q123 := byte_no c 123 (hne 123 (by decide))
  have q94 := byte_no c 94 (hne 94 (by decide))
  have q61 := byte_no c 61 (hne 61 (by decide))
  have q35 := byte_no c 35 (hne 35 (by decide))
  have q41 := byte_no c 41 (hne 41 (by decide))
  have q93 := byte_no c 93 (hne 93 (by decide))
  have q125 := byte_no c 125 (hne 125 (by decide))
  have q124 := byte_no c 124 (hne 124 (by decide))
  clear hu hne hn
  go_enter Tryz.func114, Tryz.ntmps114
  go_wp2_with fail
  go_ret2
  exact ⟨by rw [HT.out]; rfl, rfl⟩
theorem zsymbol_any (s : ByteArray) (hs : s.size ≤ 1048576) (h0 : 0 < s.size) (w : World) :
    Calls Tryz.prog 114 #[.string s] w (SymPost s.data.toList w) := by
  obtain ⟨r, hr⟩ := byte_cons s h0
  obtain ⟨c, hc⟩ : ∃ c, s[0] = c := ⟨_, rfl⟩
  rw [hc] at hr
  rw [hr]
  cases hm : syms1.contains c
  · exact sym_no s hs h0 r c hc hr hm w
  · have hm : c ∈ syms1 := List.contains_iff_mem.1 hm
    unfold syms1 at hm
    simp only [List.mem_cons, or_false, List.not_mem_nil] at hm
    rcases hm with h | h | h | h | h | h | h | h | h | h | h | h | h | h | h | h | h | h | h | h | h | h
    · exact sym_43 s hs h0 r c hc h hr w
    · exact sym_45 s hs h0 r c hc h hr w
    · exact sym_42 s hs h0 r c hc h hr w
    · exact sym_47 s hs h0 r c hc h hr w
    · exact sym_126 s hs h0 r c hc h hr w
    · cases p : Lib.hasPrefix (c :: r) [46, 46]
      · exact sym_46b s hs h0 r c hc h hr p w
      · exact sym_46a s hs h0 r c hc h hr p w
    · exact sym_44 s hs h0 r c hc h hr w
    · exact sym_59 s hs h0 r c hc h hr w
    · exact sym_40 s hs h0 r c hc h hr w
    · exact sym_91 s hs h0 r c hc h hr w
    · exact sym_123 s hs h0 r c hc h hr w
    · exact sym_94 s hs h0 r c hc h hr w
    · exact sym_61 s hs h0 r c hc h hr w
    · exact sym_35 s hs h0 r c hc h hr w
    · cases p : Lib.hasPrefix (c :: r) [60, 62]
      · cases q : Lib.hasPrefix r [61]
        · exact sym_60c s hs h0 r c hc h hr p q w
        · exact sym_60b s hs h0 r c hc h hr p q w
      · exact sym_60a s hs h0 r c hc h hr p w
    · cases p : Lib.hasPrefix r [61]
      · exact sym_62b s hs h0 r c hc h hr p w
      · exact sym_62a s hs h0 r c hc h hr p w
    · cases p : Lib.hasPrefix r [61]
      · exact sym_58b s hs h0 r c hc h hr p w
      · exact sym_58a s hs h0 r c hc h hr p w
    · exact sym_41 s hs h0 r c hc h hr w
    · exact sym_93 s hs h0 r c hc h hr w
    · exact sym_125 s hs h0 r c hc h hr w
    · exact sym_124 s hs h0 r c hc h hr w
    · exact sym_38 s hs h0 r c hc h hr w
end Go.Proofs.YtliebhpddjbjeaaGreatDoor
