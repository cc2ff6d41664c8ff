/- add, awake. -/
import Derived.Test.YteonmljchcekpaaY3
import Derived.Test.YteonmljchcekpaaY4
import Derived.Test.YteonmljchcekpaaY8
namespace Go.Proofs.Yteonmljchcekpaa
open Go Go.RowKit Go.Maps Go.Sort
set_option maxRecDepth 20000
def kA : ByteArray := ⟨#[97]⟩
def uAdd (n : Int) : Up := (⟨#[97]⟩, 3, n, ⟨#[]⟩)
/-- A round that adds to a, its updates in block g. -/
def rAdd (g : Nat) (n : Int) : Rn := ⟨1, 1, some ⟨g, 0, none⟩, 1, 1, [uAdd n]⟩
theorem ru_add {w : World} {g : Nat} {n : Int} (h : Ub w g (uAdd n)) : Ru w (rAdd g n) :=
  ⟨isUs_one h, Nat.le_refl _, fun e => by cases e⟩
set_option maxHeartbeats 1000000 in
theorem add_any (n : Int) (w : World) : Calls Try.prog 24 #[.int .i64 n] w fun e w' => ∃ g, e = .returned (.agg #[.int .i64 1, .int .i64 1, .slice (some ⟨g, 0, none⟩) 1 1]) ∧ Ru w' (rAdd g n) ∧ Below w.heap.size w w' := by
  go_enter Try.func24, Try.ntmps24
  go_wp2
  refine bodyPost_ret (v := .agg #[.int .i64 1, .int .i64 1, .slice (some ⟨w.heap.size + 1, 0, none⟩) 1 1]) (by simp [results, Try.results24, go_sem]) rfl ⟨w.heap.size + 1, rfl, ru_add ?_, ?_⟩
  · exact new_at (by simp)
  · exact Joins.below_alloc2 _ _ _
theorem may_add (n : Int) (h : n = 1 ∨ n = 2 ∨ n = 3) : mayE (uAdd n) = 0 := by
  rcases h with rfl | rfl | rfl <;> decide
theorem isRs_one {w : World} {r : Rn} (h : Ru w r) : IsRs (w.alloc (.cells #[.int .i64 r.o, .int .i64 r.n, .slice r.a r.len r.cap] 45)) (some ⟨w.heap.size, 0, none⟩) 1 [r] := by
  have ho := rsAt_one w r
  exact ⟨ho.size, ho.lies, fun x hx => by obtain rfl := List.mem_singleton.1 hx; exact h.below (Joins.below_alloc1 _ _)⟩
theorem isRs_two {w : World} {r s : Rn} (h : Ru w r) (k : Ru w s) : IsRs (w.alloc (.cells #[.int .i64 r.o, .int .i64 r.n, .slice r.a r.len r.cap, .int .i64 s.o, .int .i64 s.n, .slice s.a s.len s.cap] 45)) (some ⟨w.heap.size, 0, none⟩) 2 [r, s] := by
  have hb : (w.alloc (.cells #[.int .i64 r.o, .int .i64 r.n, .slice r.a r.len r.cap, .int .i64 s.o, .int .i64 s.n, .slice s.a s.len s.cap] 45)).heap[w.heap.size]? = some (.cells #[.int .i64 r.o, .int .i64 r.n, .slice r.a r.len r.cap, .int .i64 s.o, .int .i64 s.n, .slice s.a s.len s.cap] 45 (0, 0)) := new_at rfl
  refine ⟨rfl, fun _ => ⟨w.heap.size, 0, rfl, three fun i hi => ?_⟩, fun x hx => ?_⟩
  · have hi2 : i = 0 ∨ i = 1 := by simp at hi; omega
    rcases hi2 with rfl | rfl
    · exact ⟨cell_at hb 0 _ rfl, cell_at hb 1 _ rfl, cell_at hb 2 _ rfl⟩
    · exact ⟨cell_at hb 3 _ rfl, cell_at hb 4 _ rfl, cell_at hb 5 _ rfl⟩
  · have hx2 : x = r ∨ x = s := by simpa using hx
    rcases hx2 with rfl | rfl
    · exact h.below (Joins.below_alloc1 _ _)
    · exact k.below (Joins.below_alloc1 _ _)
theorem sh_add (n : Int) : (uAdd n).1.size ≤ 1000 ∧ Sh (uAdd n).2.2.2 := ⟨by show (1 : Nat) ≤ 1000; omega, by show (0 : Nat) ≤ 100000; omega⟩
theorem pl_one (g g' : Nat) : Pl [uAdd 3] [rAdd g 1, rAdd g' 2] := by
  refine ⟨fun u hu => ?_, by simp [flatR, rAdd], by simp⟩
  have h : u = uAdd 1 ∨ u = uAdd 2 ∨ u = uAdd 3 := by simpa [flatR, rAdd] using hu
  rcases h with rfl | rfl | rfl <;> exact sh_add _
theorem pl_two (g : Nat) : Pl [uAdd 3] [rAdd g 1] := by
  refine ⟨fun u hu => ?_, by simp [flatR, rAdd], by simp⟩
  have h : u = uAdd 1 ∨ u = uAdd 3 := by simpa [flatR, rAdd] using hu
  rcases h with rfl | rfl <;> exact sh_add _
theorem pl_nil : Pl [] [] := ⟨fun u hu => by simp [flatR] at hu, by simp [flatR], by simp⟩
theorem rd_one (g g' : Nat) : stF (flatR [rAdd g 1, rAdd g' 2] ++ [uAdd 3]) (ky ⟨#[97]⟩) = (1, 6, ⟨#[]⟩) := by
  show stF [uAdd 1, uAdd 2, uAdd 3] (ky ⟨#[97]⟩) = (1, 6, ⟨#[]⟩)
  kernel_rfl
theorem key_add (us : List Up) (h : ∀ u ∈ us, ky u.1 = [97]) (h1 : (stF us [97]).1 ≠ 0) : KeyL (stF us) [[97]] := by
  refine ⟨by simp, fun k => ⟨fun hk => ?_, fun hk => ?_⟩⟩
  · obtain rfl : k = [97] := by simpa using hk
    exact h1
  · have := has_key hk
    obtain ⟨u, hu, e⟩ := List.mem_map.1 this
    rw [← e, h u hu]
    simp
theorem len_one (g : Nat) : KeyL (stF (flatR [rAdd g 1] ++ [uAdd 3])) [[97]] := by
  show KeyL (stF [uAdd 1, uAdd 3]) [[97]]
  refine key_add _ (fun u hu => ?_) (by decide)
  have h : u = uAdd 1 ∨ u = uAdd 3 := by simpa using hu
  rcases h with rfl | rfl <;> rfl
theorem len_nil : KeyL (stF (flatR [] ++ [])) [] := ⟨List.Pairwise.nil, fun k => ⟨fun h => (by cases h), fun h => absurd rfl h⟩⟩
theorem tou_one (g g' : Nat) : TouL (flatR [rAdd g 1, rAdd g' 2]) [[97]] := by
  show TouL [uAdd 1, uAdd 2] [[97]]
  refine ⟨by simp, fun x => ⟨fun hx => ?_, fun ⟨u, hu, _, e⟩ => ?_⟩⟩
  · obtain rfl : x = [97] := by simpa using hx
    exact ⟨uAdd 1, by simp, may_add 1 (by simp), rfl⟩
  · have h : u = uAdd 1 ∨ u = uAdd 2 := by simpa using hu
    rcases h with rfl | rfl <;> (rw [← e]; simp [uAdd, ky])
theorem isSs_a (w : World) : IsSs (w.alloc (.cells #[.string ⟨#[97]⟩] 9)) (some ⟨w.heap.size, 0, none⟩) [[97]] :=
  ⟨fun _ => ⟨w.heap.size, 0, rfl, by simp, fun i hi => by
    obtain rfl : i = 0 := by simpa using hi
    exact cell_at (new_at rfl) 0 _ rfl⟩⟩
theorem rread {g0 g1 : Nat} (g g' : Nat) (w : World) (hu : IsUs w (some ⟨g0, 0, none⟩) 1 [uAdd 3]) (hr : IsRs w (some ⟨g1, 0, none⟩) 2 [rAdd g 1, rAdd g' 2]) :
    Calls Try.prog 11 #[.string ⟨#[97]⟩, .slice (some ⟨g0, 0, none⟩) 1 1, .slice (some ⟨g1, 0, none⟩) 2 2] w fun e w' => e = .returned (.agg #[.int .i64 1, .int .i64 6, .string ⟨#[]⟩]) ∧ Below w.heap.size w w' := by
  have h := read_any ⟨#[97]⟩ (some ⟨g0, 0, none⟩) 1 1 [uAdd 3] (some ⟨g1, 0, none⟩) 2 2 [rAdd g 1, rAdd g' 2] (pl_one g g') w hu hr
  rw [rd_one] at h
  exact h
theorem rlen1 {g0 g1 : Nat} (g : Nat) (w : World) (hu : IsUs w (some ⟨g0, 0, none⟩) 1 [uAdd 3]) (hr : IsRs w (some ⟨g1, 0, none⟩) 1 [rAdd g 1]) :
    Calls Try.prog 14 #[.slice (some ⟨g0, 0, none⟩) 1 1, .slice (some ⟨g1, 0, none⟩) 1 1] w fun e w' => e = .returned (.int .i64 1) ∧ Below w.heap.size w w' :=
  lens_any (some ⟨g0, 0, none⟩) 1 1 [uAdd 3] (some ⟨g1, 0, none⟩) 1 1 [rAdd g 1] (pl_two g) [[97]] (len_one g) w hu hr
theorem rlen0 (w : World) : Calls Try.prog 14 #[.slice none 0 0, .slice none 0 0] w fun e w' => e = .returned (.int .i64 0) ∧ Below w.heap.size w w' :=
  lens_any none 0 0 [] none 0 0 [] pl_nil [] len_nil w (isUs_nil w) (isRs_nil w)
theorem rtou {g1 : Nat} (g g' : Nat) (w : World) (hr : IsRs w (some ⟨g1, 0, none⟩) 2 [rAdd g 1, rAdd g' 2]) :
    Calls Try.prog 18 #[.slice (some ⟨g1, 0, none⟩) 2 2] w fun e w' => ∃ a' c', e = .returned (.slice a' 1 c') ∧ IsSs w' a' [[97]] ∧ Below w.heap.size w w' :=
  touched_any (some ⟨g1, 0, none⟩) 2 2 [rAdd g 1, rAdd g' 2] (pl_one g g').closed [[97]] (tou_one g g') w hr
set_option maxHeartbeats 4000000 in
theorem awake_yes (w : World) : Calls Try.prog 9 #[] w fun e w' => e = .returned (.bool true) ∧ Below w.heap.size w w' := by
  have h0 : IsUs (w.alloc (.cells #[.string ⟨#[97]⟩, .int .i64 3, .int .i64 3, .string ⟨#[]⟩] 42)) (some ⟨w.heap.size, 0, none⟩) 1 [uAdd 3] := isUs_one (u := uAdd 3) (new_at rfl)
  have HO0 := Lib.hid h0
  have HB0 := Lib.hid (Joins.below_alloc1 w (.cells #[.string ⟨#[97]⟩, .int .i64 3, .int .i64 3, .string ⟨#[]⟩] 42))
  clear h0
  go_enter Try.func9, Try.ntmps9
  go_wp2_with fail
  refine (add_any 1 _).mono ?_
  rintro e w1 ⟨g1, rfl, hr, hb⟩
  have HO1 := Lib.hid (isUs_below HO0.out hb)
  have HB1 := Lib.hid (Below.next HB0.out hb)
  have HR1 := Lib.hid hr
  clear hr hb HO0 HB0
  go_wp2_with fail
  refine (add_any 2 _).mono ?_
  rintro e w2 ⟨g2, rfl, hr, hb⟩
  have HO2 := Lib.hid (isUs_below HO1.out hb)
  have HB2 := Lib.hid (Below.next HB1.out hb)
  have HR2 := Lib.hid hr
  have HQ2 := Lib.hid (HR1.out.below hb)
  clear hr hb HO1 HB1 HR1
  go_wp2_with fail
  refine (rread g1 g2 _ (isUs_below HO2.out (Joins.below_alloc1 _ _)) (isRs_two HQ2.out HR2.out)).mono ?_
  rintro e w3 ⟨rfl, hb⟩
  have HO3 := Lib.hid (isUs_below (isUs_below HO2.out (Joins.below_alloc1 _ _)) hb)
  have HB3 := Lib.hid (Below.next (HB2.out.alloc HB2.out.size _) hb)
  clear hb HO2 HB2 HR2 HQ2
  go_wp2_with fail
  refine (add_any 1 _).mono ?_
  rintro e w4 ⟨g4, rfl, hr, hb⟩
  have HO4 := Lib.hid (isUs_below HO3.out hb)
  have HB4 := Lib.hid (Below.next HB3.out hb)
  have HR4 := Lib.hid hr
  clear hr hb HO3 HB3
  go_wp2_with fail
  refine (rlen1 g4 _ (isUs_below HO4.out (Joins.below_alloc1 _ _)) (isRs_one HR4.out)).mono ?_
  rintro e w5 ⟨rfl, hb⟩
  have HB5 := Lib.hid (Below.next (HB4.out.alloc HB4.out.size _) hb)
  clear hb HO4 HB4 HR4
  go_wp2_with fail
  refine (rlen0 _).mono ?_
  rintro e w6 ⟨rfl, hb⟩
  have HB6 := Lib.hid (Below.next HB5.out hb)
  clear hb HB5
  go_wp2_with fail
  refine (add_any 1 _).mono ?_
  rintro e w7 ⟨g7, rfl, hr, hb⟩
  have HB7 := Lib.hid (Below.next HB6.out hb)
  have HR7 := Lib.hid hr
  clear hr hb HB6
  go_wp2_with fail
  refine (add_any 2 _).mono ?_
  rintro e w8 ⟨g8, rfl, hr, hb⟩
  have HB8 := Lib.hid (Below.next HB7.out hb)
  have HR8 := Lib.hid hr
  have HQ8 := Lib.hid (HR7.out.below hb)
  clear hr hb HB7 HR7
  go_wp2_with fail
  refine (rtou g7 g8 _ (isRs_two HQ8.out HR8.out)).mono ?_
  rintro e w9 ⟨a9, c9, rfl, hs, hb⟩
  have HB9 := Lib.hid (Below.next (HB8.out.alloc HB8.out.size _) hb)
  have HS9 := Lib.hid hs
  clear hs hb HB8 HR8 HQ8
  go_wp2_with fail
  refine (same_yes _ _ _ _ [[97]] (by decide) _ (isSs_below HS9.out (Joins.below_alloc1 _ _)) (isSs_a _)).mono ?_
  rintro e w10 ⟨rfl, hb⟩
  have HB10 := Lib.hid (Below.next (HB9.out.alloc HB9.out.size _) hb)
  clear hb HB9 HS9
  go_wp2
  go_ret
  exact ⟨rfl, HB10.out⟩
end Go.Proofs.Yteonmljchcekpaa
