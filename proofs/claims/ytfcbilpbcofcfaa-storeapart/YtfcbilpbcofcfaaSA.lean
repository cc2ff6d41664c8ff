/- great; awake. -/
import Derived.Test.YtfcbilpbcofcfaaS9
namespace Go.Proofs.Ytfcbilpbcofcfaa
open Go Go.RowKit Go.Maps Go.Sort
/-- Is there more than is played? -/
def gL (len : Nat) (us : List Up) : Prop := gAll len us ∨ 60 < len
set_option maxHeartbeats 400000 in
theorem great_no (a : Option Addr) (len cap : Nat) (us : List Up) (hg : ¬ gL len us) (w : World) (h : IsUs w a len us) :
    Calls Try.prog 10 #[.slice a len cap] w fun x w' => x = .returned (.bool false) ∧ Below w.heap.size w w' := by
  unfold gL at hg
  have HG := Lib.hid (greatAll_no a len cap us (fun x => hg (.inl x)) w h)
  have q : decide ((60 : Int) < (len : Int)) = false := decide_eq_false (by omega)
  clear hg h
  go_enter Try.func10, Try.ntmps10
  go_wp2_with fail
  refine HG.out.mono ?_
  rintro e w1 ⟨rfl, hb⟩
  have HB := Lib.hid hb
  clear hb HG
  go_wp2
  go_ret
  exact ⟨rfl, HB.out⟩
set_option maxHeartbeats 400000 in
theorem great_yes (a : Option Addr) (len cap : Nat) (us : List Up) (hg : gL len us) (w : World) (h : IsUs w a len us) :
    Calls Try.prog 10 #[.slice a len cap] w fun x w' => x = .returned (.bool true) ∧ Below w.heap.size w w' := by
  by_cases ha : gAll len us
  · have HG := Lib.hid (greatAll_yes a len cap us ha w h)
    clear hg h ha
    go_enter Try.func10, Try.ntmps10
    go_wp2_with fail
    refine HG.out.mono ?_
    rintro e w1 ⟨rfl, hb⟩
    have HB := Lib.hid hb
    clear hb HG
    go_wp2
    go_ret
    exact ⟨rfl, HB.out⟩
  · have HG := Lib.hid (greatAll_no a len cap us ha w h)
    have hl : 60 < len := by
      rcases hg with hx | hx
      · exact absurd hx ha
      · exact hx
    have q : decide ((60 : Int) < (len : Int)) = true := decide_eq_true (by omega)
    clear hg h ha
    go_enter Try.func10, Try.ntmps10
    go_wp2_with fail
    refine HG.out.mono ?_
    rintro e w1 ⟨rfl, hb⟩
    have HB := Lib.hid hb
    clear hb HG
    go_wp2
    go_ret
    exact ⟨rfl, HB.out⟩
def uB : Up := (⟨#[98]⟩, 1, 1, ⟨#[]⟩)
def uA : Up := (⟨#[97]⟩, 2, 0, ⟨#[120]⟩)
def uE : Up := (⟨#[]⟩, 1, 0, ⟨#[]⟩)
def uD : Up := (⟨#[98]⟩, 5, 0, ⟨#[]⟩)
theorem mayB : mayE uB = 0 := by decide
theorem mayA : mayE uA = 0 := by decide
theorem mayEe : mayE uE = 1 := by decide
theorem mayD : mayE uD = 0 := by decide
def F1 : Fn := doF f0 uB
def F2 : Fn := doF F1 uA
def F3 : Fn := doF F2 uE
def F4 : Fn := doF F3 uD
theorem gdF1 : ∀ k, Gd (F1 k) := gd_do (fun _ => gd_none) (by show (0 : Nat) ≤ _; omega)
theorem gdF2 : ∀ k, Gd (F2 k) := gd_do gdF1 (by show (1 : Nat) ≤ _; omega)
theorem gdF3 : ∀ k, Gd (F3 k) := gd_do gdF2 (by show (0 : Nat) ≤ _; omega)
theorem gdF4 : ∀ k, Gd (F4 k) := gd_do gdF3 (by show (0 : Nat) ≤ _; omega)
theorem knF3 : Kn F3 := kn_do (kn_do (kn_do fun _ hk => absurd rfl hk))
theorem F3_at (k : Ky) : F3 k = if k = [97] then txtV ⟨#[120]⟩ else if k = [98] then numV 1 else noneV := by
  have e3 : F3 = F2 := doF_refused (by rw [mayEe]; decide)
  rw [e3]
  show doF (doF f0 uB) uA k = _
  have ka : ky uA.1 = [97] := rfl
  have kb : ky uB.1 = [98] := rfl
  unfold doF
  rw [ka, kb]
  simp only [mayA, mayB, and_true]
  by_cases h1 : k = [97]
  · subst h1; rfl
  · rw [if_neg h1, if_neg h1]
    by_cases h2 : k = [98]
    · subst h2; rfl
    · rw [if_neg h2, if_neg h2]; rfl
theorem F4_at (k : Ky) : F4 k = if k = [97] then txtV ⟨#[120]⟩ else noneV := by
  show doF F3 uD k = _
  have kd : ky uD.1 = [98] := rfl
  unfold doF
  rw [kd]
  simp only [mayD, and_true]
  by_cases h2 : k = [98]
  · subst h2; rw [if_pos rfl]; rfl
  · rw [if_neg h2, F3_at]
    by_cases h1 : k = [97]
    · subst h1; rfl
    · rw [if_neg h1, if_neg h2, if_neg h1]
theorem keysF3 : KeyL F3 [[97], [98]] := by
  refine ⟨by decide, fun k => ?_⟩
  rw [F3_at]
  by_cases h1 : k = [97]
  · subst h1; simp [txtV]
  · by_cases h2 : k = [98]
    · subst h2; simp [numV]
    · simp [h1, h2, noneV]
theorem keysF4 : KeyL F4 [[97]] := by
  refine ⟨by decide, fun k => ?_⟩
  rw [F4_at]
  by_cases h1 : k = [97]
  · subst h1; simp [txtV]
  · simp [h1, noneV]
theorem sh0 : Sh ⟨#[]⟩ := by show (0 : Nat) ≤ _; omega
theorem sh1 (x : UInt8) : Sh ⟨#[x]⟩ := by show (1 : Nat) ≤ _; omega
theorem doB (b m n : Nat) (hn : n < 1000000) (w : World) (h : St w b m n f0) : Calls Try.prog 11 #[.pointer (some ⟨b, 0, none⟩), .agg #[.string ⟨#[98]⟩, .int .i64 1, .int .i64 1, .string ⟨#[]⟩]] w fun e w' => e = .returned (.int .i64 0) ∧ St w' b m (n + 1) F1 ∧ w.grownBy w' (some m) := by
  have := do_any b m n f0 uB (by decide) hn sh0 (fun _ => gd_none) w h
  rw [mayB] at this; exact this
theorem doA (b m n : Nat) (hn : n < 1000000) (w : World) (h : St w b m n F1) : Calls Try.prog 11 #[.pointer (some ⟨b, 0, none⟩), .agg #[.string ⟨#[97]⟩, .int .i64 2, .int .i64 0, .string ⟨#[120]⟩]] w fun e w' => e = .returned (.int .i64 0) ∧ St w' b m (n + 1) F2 ∧ w.grownBy w' (some m) := by
  have := do_any b m n F1 uA (by decide) hn (sh1 _) gdF1 w h
  rw [mayA] at this; exact this
theorem doE (b m n : Nat) (hn : n < 1000000) (w : World) (h : St w b m n F2) : Calls Try.prog 11 #[.pointer (some ⟨b, 0, none⟩), .agg #[.string ⟨#[]⟩, .int .i64 1, .int .i64 0, .string ⟨#[]⟩]] w fun e w' => e = .returned (.int .i64 1) ∧ St w' b m (n + 1) F3 ∧ w.grownBy w' (some m) := by
  have := do_any b m n F2 uE (by decide) hn sh0 gdF2 w h
  rw [mayEe] at this; exact this
theorem doD (b m n : Nat) (hn : n < 1000000) (w : World) (h : St w b m n F3) : Calls Try.prog 11 #[.pointer (some ⟨b, 0, none⟩), .agg #[.string ⟨#[98]⟩, .int .i64 5, .int .i64 0, .string ⟨#[]⟩]] w fun e w' => e = .returned (.int .i64 0) ∧ St w' b m (n + 1) F4 ∧ w.grownBy w' (some m) := by
  have := do_any b m n F3 uD (by decide) hn sh0 gdF3 w h
  rw [mayD] at this; exact this
theorem len3 (b m n : Nat) (w : World) (h : St w b m n F3) : Calls Try.prog 18 #[.pointer (some ⟨b, 0, none⟩)] w fun e w' => e = .returned (.int .i64 2) ∧ w' = w := len_any b m n F3 _ keysF3 w h
theorem len4 (b m n : Nat) (w : World) (h : St w b m n F4) : Calls Try.prog 18 #[.pointer (some ⟨b, 0, none⟩)] w fun e w' => e = .returned (.int .i64 1) ∧ w' = w := len_any b m n F4 _ keysF4 w h
theorem getA (b m n : Nat) (w : World) (h : St w b m n F4) : Calls Try.prog 13 #[.pointer (some ⟨b, 0, none⟩), .string ⟨#[97]⟩] w fun e w' => e = .returned (.agg #[.int .i64 2, .int .i64 0, .string ⟨#[120]⟩]) ∧ Below w.heap.size w w' := by
  have := get_any b m n F4 ⟨#[97]⟩ (by decide) (gdF4 _).2.2 w h
  rw [F4_at] at this; exact this
theorem getB (b m n : Nat) (w : World) (h : St w b m n F4) : Calls Try.prog 13 #[.pointer (some ⟨b, 0, none⟩), .string ⟨#[98]⟩] w fun e w' => e = .returned (.agg #[.int .i64 0, .int .i64 0, .string ⟨#[]⟩]) ∧ Below w.heap.size w w' := by
  have := get_any b m n F4 ⟨#[98]⟩ (by decide) (gdF4 _).2.2 w h
  rw [F4_at] at this; exact this
theorem keys3 (b m n : Nat) (hn : n < 1000000) (w : World) (h : St w b m n F3) : Calls Try.prog 16 #[.pointer (some ⟨b, 0, none⟩)] w fun e w' => ∃ g cap, e = .returned (.slice (some ⟨g, 0, none⟩) 2 cap) ∧ w'.ownsRow w.heap.size 9 1 (.slice (some ⟨g, 0, none⟩) 2 cap) 2 ([[97], [98]].map encStr) ∧ Below w.heap.size w w' := keys_any b m n F3 [[97], [98]] keysF3 knF3 hn w h
/-- The store's frame: what lies below B is as it was. -/
theorem bgrown {B : Nat} {w w1 w2 : World} {m : Nat} (h : Below B w w1) (hg : w1.grownBy w2 (some m)) (hB : B ≤ w1.heap.size) (hm : B ≤ m) : Below B w w2 := h.grown hg hB (fun j hj => by cases hj; exact hm)
theorem two_new {w : World} : IsSs (w.alloc (.cells #[.string ⟨#[97]⟩, .string ⟨#[98]⟩] 9)) (some ⟨w.heap.size, 0, none⟩) [[97], [98]] :=
  ⟨fun _ => ⟨w.heap.size, 0, rfl, by simp, fun i hi => by
    have h : i = 0 ∨ i = 1 := by simp at hi; omega
    rcases h with rfl | rfl
    · exact cell_at (new_at rfl) 0 _ rfl
    · exact cell_at (new_at rfl) 1 _ rfl⟩⟩
set_option maxHeartbeats 4000000 in
theorem awake_yes (w : World) : Calls Try.prog 9 #[] w fun e w' => e = .returned (.bool true) ∧ Below w.heap.size w w' := by
  go_enter Try.func9, Try.ntmps9
  go_wp2_with fail
  refine (new_any _).mono ?_
  rintro e w1 ⟨rfl, h1, hb1, hs1⟩
  have H1 := Lib.hid h1
  have HB1 := Lib.hid hb1
  clear h1 hb1
  go_wp2_with fail
  refine (doB _ _ 0 (by decide) _ H1.out).mono ?_
  rintro e w2 ⟨rfl, h2, hg2⟩
  have H2 := Lib.hid h2
  have HB2 := Lib.hid (bgrown HB1.out hg2 HB1.out.size (Nat.le_refl _))
  clear h2 hg2 H1 HB1
  go_wp2_with fail
  refine (doA _ _ 1 (by decide) _ H2.out).mono ?_
  rintro e w3 ⟨rfl, h3, hg3⟩
  have H3 := Lib.hid h3
  have HB3 := Lib.hid (bgrown HB2.out hg3 HB2.out.size (Nat.le_refl _))
  clear h3 hg3 H2 HB2
  go_wp2_with fail
  refine (doE _ _ 2 (by decide) _ H3.out).mono ?_
  rintro e w4 ⟨rfl, h4, hg4⟩
  have H4 := Lib.hid h4
  have HB4 := Lib.hid (bgrown HB3.out hg4 HB3.out.size (Nat.le_refl _))
  clear h4 hg4 H3 HB3
  go_wp2_with fail
  refine (len3 _ _ 3 _ H4.out).mono ?_
  rintro e w5 ⟨rfl, rfl⟩
  go_wp2_with fail
  refine (keys3 _ _ 3 (by decide) _ H4.out).mono ?_
  rintro e w6 ⟨g, cap, rfl, hr, hb6⟩
  have hg0 := (hr.lt g rfl).1
  have hgm : w.heap.size < g := Nat.lt_of_lt_of_le H4.out.ltm hg0
  have HI6 := Lib.hid (isSs_own (ss := [[97], [98]]) hr)
  have H6 := Lib.hid (H4.out.below hb6)
  have HB6 := Lib.hid (Below.next HB4.out hb6)
  clear hr hb6 H4 HB4
  go_wp2_with fail
  refine (doD _ _ 3 (by decide) _ H6.out).mono ?_
  rintro e w7 ⟨rfl, h7, hg7⟩
  have HI7 := Lib.hid (isSs_grown HI6.out hg7 (fun e => by injection e with e; omega))
  have H7 := Lib.hid h7
  have HB7 := Lib.hid (bgrown HB6.out hg7 HB6.out.size (Nat.le_refl _))
  clear h7 hg7 H6 HB6 HI6
  go_wp2_with fail
  refine (same_yes _ _ _ _ [[97], [98]] (by decide) _ (isSs_below HI7.out (Joins.below_alloc1 _ _)) two_new).mono ?_
  rintro e w8 ⟨rfl, hb8⟩
  have H8 := Lib.hid ((H7.out.alloc _).below hb8)
  have HB8 := Lib.hid (Below.next (HB7.out.alloc HB7.out.size _) hb8)
  clear hb8 H7 HB7 HI7
  go_wp2_with fail
  refine (len4 _ _ 4 _ H8.out).mono ?_
  rintro e w9 ⟨rfl, rfl⟩
  go_wp2_with fail
  refine (getA _ _ 4 _ H8.out).mono ?_
  rintro e w10 ⟨rfl, hb10⟩
  have H10 := Lib.hid (H8.out.below hb10)
  have HB10 := Lib.hid (Below.next HB8.out hb10)
  clear hb10 H8 HB8
  go_wp2_with fail
  refine (getB _ _ 4 _ H10.out).mono ?_
  rintro e w11 ⟨rfl, hb11⟩
  have HB11 := Lib.hid (Below.next HB10.out hb11)
  clear hb11 H10 HB10
  go_wp2
  go_ret
  exact ⟨rfl, HB11.out⟩
end Go.Proofs.Ytfcbilpbcofcfaa
