/- A round's block; rows of rounds; Great, of rounds. -/
import Derived.Test.YteonmljchcekpaaY0
import Derived.Test.YteonmljchcekpaaSG
namespace Go.Proofs.Yteonmljchcekpaa
open Go Go.RowKit
set_option maxRecDepth 20000
/-- A round lies in block b. -/
def Rb (w : World) (b : Nat) (o n : Int) (a : Option Addr) (len cap : Nat) : Prop := w.heap[b]? = some (.cells #[.int .i64 o, .int .i64 n, .slice a len cap] 45 (0, 0))
section
variable {w w' : World} {b : Nat} {o n : Int} {a : Option Addr} {len cap : Nat}
theorem Rb.c0 (h : Rb w b o n a len cap) : w.cell? ⟨b, 0, none⟩ = some (.int .i64 o) := by unfold Rb at h; simp [World.cell?, h]
theorem Rb.c1 (h : Rb w b o n a len cap) : w.cell? ⟨b, 1, none⟩ = some (.int .i64 n) := by unfold Rb at h; simp [World.cell?, h]
theorem Rb.c2 (h : Rb w b o n a len cap) : w.cell? ⟨b, 2, none⟩ = some (.slice a len cap) := by unfold Rb at h; simp [World.cell?, h]
theorem Rb.f0 (h : Rb w b o n a len cap) (i : Nat) : w.frozen? ⟨b, i, none⟩ = false := by unfold Rb at h; simp [World.frozen?, h]
theorem Rb.lt (h : Rb w b o n a len cap) : b < w.heap.size := (Array.getElem?_eq_some_iff.1 h).1
theorem Rb.below {B : Nat} (h : Rb w b o n a len cap) (hb : Below B w w') (hl : b < B) : Rb w' b o n a len cap := (hb.block b hl).trans h
theorem Rb.next (h : Rb w b o n a len cap) (hb : Below w.heap.size w w') : Rb w' b o n a len cap := h.below hb h.lt
theorem Rb.alloc (h : Rb w b o n a len cap) (x : Obj) : Rb (w.alloc x) b o n a len cap := (Below.heap_alloc _ _ _ h.lt).trans h
theorem Rb.kept {row : Option Nat} (h : Rb w b o n a len cap) (hg : w.grownBy w' row) (hne : some b ≠ row) : Rb w' b o n a len cap := (hg.block b h.lt hne).trans h
theorem Rb.setnew (h : Rb w b o n a len cap) {k : Nat} (hk : b ≠ k) (i : Nat) (v : Value) : Rb (w.setCell ⟨k, i, none⟩ v) b o n a len cap := (Below.heap_setCell _ _ _ _ hk).trans h
theorem Rb.new (w : World) (o n : Int) (a : Option Addr) (len cap : Nat) : Rb (w.alloc (.cells #[.int .i64 o, .int .i64 n, .slice a len cap] 45)) w.heap.size o n a len cap := heap_alloc_new _ _
theorem Rb.set0 (h : Rb w b o n a len cap) (x : Int) : Rb (w.setCell ⟨b, 0, none⟩ (.int .i64 x)) b x n a len cap := by
  unfold Rb at *; simp [World.setCell, Array.getElem?_modify, h]
theorem Rb.set1 (h : Rb w b o n a len cap) (x : Int) : Rb (w.setCell ⟨b, 1, none⟩ (.int .i64 x)) b o x a len cap := by
  unfold Rb at *; simp [World.setCell, Array.getElem?_modify, h]
theorem Rb.set2 (h : Rb w b o n a len cap) (a' : Option Addr) (len' cap' : Nat) : Rb (w.setCell ⟨b, 2, none⟩ (.slice a' len' cap')) b o n a' len' cap' := by
  unfold Rb at *; simp [World.setCell, Array.getElem?_modify, h]
end
/-- From the place off of block b on lie these rounds. -/
structure Rs (w : World) (b off : Nat) (rs : List Rn) : Prop where
  o : ∀ i, i < rs.length → w.cell? ⟨b, off + i * 3, none⟩ = some (.int .i64 (rs.getD i rn0).o)
  n : ∀ i, i < rs.length → w.cell? ⟨b, off + i * 3 + 1, none⟩ = some (.int .i64 (rs.getD i rn0).n)
  u : ∀ i, i < rs.length → w.cell? ⟨b, off + i * 3 + 2, none⟩ = some (.slice (rs.getD i rn0).a (rs.getD i rn0).len (rs.getD i rn0).cap)
theorem Rs.lt {w b off rs} (h : Rs w b off rs) (h0 : 0 < rs.length) : b < w.heap.size := block_lt_of_cell (h.o 0 h0)
theorem Rs.below {w w' : World} {B b off : Nat} {rs : List Rn} (hf : Rs w b off rs) (hb : Below B w w') (hl : b < B) : Rs w' b off rs :=
  ⟨fun i hi => (hb.cell hl).trans (hf.o i hi), fun i hi => (hb.cell hl).trans (hf.n i hi), fun i hi => (hb.cell hl).trans (hf.u i hi)⟩
theorem three {w : World} {b off : Nat} {rs : List Rn} (h : ∀ i, i < rs.length → w.cell? ⟨b, off + i * 3, none⟩ = some (.int .i64 (rs.getD i rn0).o) ∧ w.cell? ⟨b, off + i * 3 + 1, none⟩ = some (.int .i64 (rs.getD i rn0).n) ∧ w.cell? ⟨b, off + i * 3 + 2, none⟩ = some (.slice (rs.getD i rn0).a (rs.getD i rn0).len (rs.getD i rn0).cap)) : Rs w b off rs :=
  ⟨fun i hi => (h i hi).1, fun i hi => (h i hi).2.1, fun i hi => (h i hi).2.2⟩
/-- A round's updates lie there. -/
def Ru (w : World) (r : Rn) : Prop := IsUs w r.a r.len r.us ∧ r.len ≤ r.cap ∧ (r.a = none → r.cap = 0)
theorem Ru.below {w w' : World} {B : Nat} {r : Rn} (h : Ru w r) (hb : Below B w w') (hB : w.heap.size ≤ B := by exact Nat.le_refl _) : Ru w' r := ⟨isUs_below h.1 hb hB, h.2⟩
/-- What the walk is told of rounds. -/
structure IsRs (w : World) (a : Option Addr) (len : Nat) (rs : List Rn) : Prop where
  size : rs.length = len
  lies : 0 < len → ∃ b off, a = some ⟨b, off, none⟩ ∧ Rs w b off rs
  each : ∀ r ∈ rs, Ru w r
theorem isRs_below {w w' : World} {B : Nat} {a : Option Addr} {len : Nat} {rs : List Rn} (h : IsRs w a len rs) (hb : Below B w w') (hB : w.heap.size ≤ B := by exact Nat.le_refl _) : IsRs w' a len rs :=
  ⟨h.size, fun h0 => by
    obtain ⟨b, off, e, hf⟩ := h.lies h0
    have hl := hf.lt (by rw [h.size]; exact h0)
    exact ⟨b, off, e, hf.below hb (by omega)⟩, fun r hr => (h.each r hr).below hb hB⟩
theorem isRs_nil (w : World) : IsRs w none 0 [] := ⟨rfl, fun h => absurd h (Nat.lt_irrefl _), fun r hr => (by cases hr)⟩
theorem isUs_nil (w : World) : IsUs w none 0 [] := ⟨rfl, fun h => absurd h (Nat.lt_irrefl _)⟩
theorem rcells_of {w wr : World} {a : Option Addr} {len : Nat} {rs : List Rn} {k : Nat} (h : IsRs w a len rs) (hb : Below w.heap.size w wr) (hk : k < len) :
    ∃ b off, a = some ⟨b, off, none⟩ ∧ wr.cell? ⟨b, off + k * 3, none⟩ = some (.int .i64 (rs.getD k rn0).o) ∧ wr.cell? ⟨b, off + k * 3 + 1, none⟩ = some (.int .i64 (rs.getD k rn0).n) ∧ wr.cell? ⟨b, off + k * 3 + 2, none⟩ = some (.slice (rs.getD k rn0).a (rs.getD k rn0).len (rs.getD k rn0).cap) ∧ Ru w (rs.getD k rn0) := by
  have hI := isRs_below h hb
  have hl := h.size
  obtain ⟨b, off, rfl, hf⟩ := hI.lies (by omega)
  exact ⟨b, off, rfl, hf.o k (by omega), hf.n k (by omega), hf.u k (by omega), h.each _ (rn_mem (by omega))⟩
theorem cells_of {w wr : World} {a : Option Addr} {len : Nat} {us : List Up} {k : Nat} (h : IsUs w a len us) (hb : Below w.heap.size w wr) (hk : k < len) :
    ∃ b off, a = some ⟨b, off, none⟩ ∧ wr.cell? ⟨b, off + k * 4, none⟩ = some (.string (us.getD k up0).1) ∧ wr.cell? ⟨b, off + k * 4 + 1, none⟩ = some (.int .i64 (us.getD k up0).2.1) ∧ wr.cell? ⟨b, off + k * 4 + 2, none⟩ = some (.int .i64 (us.getD k up0).2.2.1) ∧ wr.cell? ⟨b, off + k * 4 + 3, none⟩ = some (.string (us.getD k up0).2.2.2) := by
  have hI := isUs_below h hb
  have hl := h.size
  obtain ⟨b, off, rfl, hf⟩ := hI.lies (by omega)
  exact ⟨b, off, rfl, hf.key k (by omega), hf.k k (by omega), hf.n k (by omega), hf.t k (by omega)⟩
theorem take_all {us : List Up} {len : Nat} (h : us.length = len) : us.take len = us := List.take_of_length_le (by omega)
theorem takeR_all {rs : List Rn} {len : Nat} (h : rs.length = len) : rs.take len = rs := List.take_of_length_le (by omega)
/-- Is a round more than is played? -/
def gR (us : List Up) : Prop := 20 < us.length ∨ gAll us.length us
set_option maxHeartbeats 1000000 in
theorem greatR_yes (o n : Int) (a : Option Addr) (len cap : Nat) (us : List Up) (hg : gR us) (w : World) (hu : IsUs w a len us) :
    Calls Try.prog 39 #[.agg #[.int .i64 o, .int .i64 n, .slice a len cap]] w fun x w' => x = .returned (.bool true) ∧ Below w.heap.size w w' := by
  have hr := Rb.new w o n a len cap
  have c2 := hr.c2
  have hsz := hu.size
  have hB := Joins.below_alloc1 w (.cells #[.int .i64 o, .int .i64 n, .slice a len cap] 45)
  have hu1 := isUs_below hu hB
  by_cases hl : 20 < len
  · have q : decide ((20 : Int) < (len : Int)) = true := decide_eq_true (by omega)
    have HB := Lib.hid hB
    clear hr hu hg hB hu1 hl hsz
    go_enter Try.func39, Try.ntmps39
    go_wp2
    go_ret
    exact ⟨rfl, HB.out⟩
  · have q : decide ((20 : Int) < (len : Int)) = false := decide_eq_false (by omega)
    have hg2 : gAll len us := by rcases hg with hx | hx; · omega
                                 · rw [hsz] at hx; exact hx
    have HG := fun w h => Lib.hid (greatAll_yes a len cap us hg2 w h)
    have HB := Lib.hid hB
    have HU := Lib.hid hu1
    clear hr hu hg hB hu1 hl hg2 hsz
    go_enter Try.func39, Try.ntmps39
    go_wp2_with fail
    refine (HG _ HU.out).out.mono ?_
    rintro x w1 ⟨rfl, hb⟩
    have HB1 := Lib.hid (Below.next HB.out hb)
    clear hb HB
    go_wp2
    go_ret
    exact ⟨rfl, HB1.out⟩
set_option maxHeartbeats 1000000 in
theorem greatR_no (o n : Int) (a : Option Addr) (len cap : Nat) (us : List Up) (hg : ¬ gR us) (w : World) (hu : IsUs w a len us) :
    Calls Try.prog 39 #[.agg #[.int .i64 o, .int .i64 n, .slice a len cap]] w fun x w' => x = .returned (.bool false) ∧ Below w.heap.size w w' := by
  have hr := Rb.new w o n a len cap
  have c2 := hr.c2
  have hsz := hu.size
  have hB := Joins.below_alloc1 w (.cells #[.int .i64 o, .int .i64 n, .slice a len cap] 45)
  have hu1 := isUs_below hu hB
  unfold gR at hg
  rw [hsz] at hg
  have hl : ¬ 20 < len := fun h => hg (.inl h)
  have q : decide ((20 : Int) < (len : Int)) = false := decide_eq_false (by omega)
  have hg2 : ¬ gAll len us := fun h => hg (.inr h)
  have HG := fun w h => Lib.hid (greatAll_no a len cap us hg2 w h)
  have HB := Lib.hid hB
  have HU := Lib.hid hu1
  clear hr hu hg hB hu1 hl hg2 hsz
  go_enter Try.func39, Try.ntmps39
  go_wp2_with fail
  refine (HG _ HU.out).out.mono ?_
  rintro x w1 ⟨rfl, hb⟩
  have HB1 := Lib.hid (Below.next HB.out hb)
  clear hb HB
  go_wp2
  go_ret
  exact ⟨rfl, HB1.out⟩

/-- Are these rounds more than is played? -/
def gRs (rs : List Rn) : Prop := 40 < rs.length ∨ ∃ i, i < rs.length ∧ gR (rs.getD i rn0).us
set_option maxHeartbeats 2000000 in
theorem greatRs_no (a : Option Addr) (len cap : Nat) (rs : List Rn) (hg : ¬ gRs rs) (w : World) (h : IsRs w a len rs) :
    Calls Try.prog 26 #[.slice a len cap] w fun x w' => x = .returned (.bool false) ∧ Below w.heap.size w w' := by
  unfold gRs at hg
  have hsz := h.size
  rw [hsz] at hg
  have hl : len ≤ 40 := by omega
  have HT : Hid (∀ i, i < len → ¬ gR (rs.getD i rn0).us) := fun i hi hx => hg (.inr ⟨i, hi, hx⟩)
  have H := Lib.hid h
  clear h hg hsz
  go_enter Try.func26, Try.ntmps26
  go_wp2_with fail
  go_loopw [3] (fun v3 wr => ∃ k : Nat, k ≤ len ∧ v3 = .int .i64 k ∧ Below w.heap.size w wr) (fun v3 _ => len - (intOf v3).toNat)
  case atStart => exact ⟨0, Nat.zero_le _, rfl, Below.refl _ _⟩
  case round =>
    obtain ⟨k, hk, rfl, hbel⟩ := hrel
    by_cases hlt : k < len
    · obtain ⟨b, off, rfl, c0, c1, c2, hru⟩ := rcells_of H.out hbel hlt
      have HG := fun w h => Lib.hid (greatR_no (rs.getD k rn0).o (rs.getD k rn0).n (rs.getD k rn0).a (rs.getD k rn0).len (rs.getD k rn0).cap (rs.getD k rn0).us (HT.out k hlt) w h)
      have HU := Lib.hid (isUs_below hru.1 hbel)
      have HBEL := Lib.hid hbel
      clear hbel hru
      generalize rs.getD k rn0 = r at *
      obtain ⟨ro, rn, ra, rl, rc, ru⟩ := r
      simp only at c0 c1 c2 HG HU
      go_wp2_with fail
      refine (HG _ HU.out).out.mono ?_
      rintro e w2 ⟨rfl, hb⟩
      have HB2 := Lib.hid (Below.next HBEL.out hb)
      clear hb HBEL
      go_wp2
      go_roundw
      case rel => exact ⟨k + 1, by omega, by go_num, HB2.out⟩
      case measure => simp [intOf]; omega
    · obtain rfl : k = len := by omega
      have HBEL := Lib.hid hbel
      clear hbel
      go_wp2
      go_ret
      exact ⟨rfl, HBEL.out⟩
set_option maxHeartbeats 2000000 in
theorem greatRs_yes (a : Option Addr) (len cap : Nat) (rs : List Rn) (hg : gRs rs) (w : World) (h : IsRs w a len rs) :
    Calls Try.prog 26 #[.slice a len cap] w fun x w' => x = .returned (.bool true) ∧ Below w.heap.size w w' := by
  unfold gRs at hg
  have hsz := h.size
  rw [hsz] at hg
  by_cases hl : 40 < len
  · clear h hg hsz
    go_enter Try.func26, Try.ntmps26
    go_wp2
    go_ret
    exact ⟨rfl, Below.refl _ _⟩
  obtain ⟨i, hi, hti⟩ : ∃ i, i < len ∧ gR (rs.getD i rn0).us := by
    rcases hg with hx | hx
    · exact absurd hx hl
    · exact hx
  have hl' : len ≤ 40 := by omega
  have HT := Lib.hid hti
  have H := Lib.hid h
  clear h hg hl hti hsz
  go_enter Try.func26, Try.ntmps26
  go_wp2_with fail
  go_loopw [3] (fun v3 wr => ∃ k : Nat, k ≤ i ∧ v3 = .int .i64 k ∧ Below w.heap.size w wr) (fun v3 _ => len - (intOf v3).toNat)
  case atStart => exact ⟨0, Nat.zero_le _, rfl, Below.refl _ _⟩
  case round =>
    obtain ⟨k, hk, rfl, hbel⟩ := hrel
    have hlt : k < len := by omega
    obtain ⟨b, off, rfl, c0, c1, c2, hru⟩ := rcells_of H.out hbel hlt
    have HU := Lib.hid (isUs_below hru.1 hbel)
    have HBEL := Lib.hid hbel
    by_cases htt : gR (rs.getD k rn0).us
    · have HG := fun w h => Lib.hid (greatR_yes (rs.getD k rn0).o (rs.getD k rn0).n (rs.getD k rn0).a (rs.getD k rn0).len (rs.getD k rn0).cap (rs.getD k rn0).us htt w h)
      clear hbel hru htt
      generalize rs.getD k rn0 = r at *
      obtain ⟨ro, rn, ra, rl, rc, ru⟩ := r
      simp only at c0 c1 c2 HG HU
      go_wp2_with fail
      refine (HG _ HU.out).out.mono ?_
      rintro e w2 ⟨rfl, hb⟩
      have HB2 := Lib.hid (Below.next HBEL.out hb)
      clear hb HBEL
      go_wp2
      go_ret
      exact ⟨rfl, HB2.out⟩
    · have hki : k < i := by
        rcases Nat.lt_or_ge k i with hx | hx
        · exact hx
        · exact absurd (show gR (rs.getD k rn0).us by rw [show k = i by omega]; exact HT.out) htt
      have HG := fun w h => Lib.hid (greatR_no (rs.getD k rn0).o (rs.getD k rn0).n (rs.getD k rn0).a (rs.getD k rn0).len (rs.getD k rn0).cap (rs.getD k rn0).us htt w h)
      clear hbel hru htt
      generalize rs.getD k rn0 = r at *
      obtain ⟨ro, rn, ra, rl, rc, ru⟩ := r
      simp only at c0 c1 c2 HG HU
      go_wp2_with fail
      refine (HG _ HU.out).out.mono ?_
      rintro e w2 ⟨rfl, hb⟩
      have HB2 := Lib.hid (Below.next HBEL.out hb)
      clear hb HBEL
      go_wp2
      go_roundw
      case rel => exact ⟨k + 1, by omega, by go_num, HB2.out⟩
      case measure => simp [intOf]; omega
/-- Is there more than is played? -/
def g8 (us : List Up) (rs : List Rn) : Prop := gAll us.length us ∨ 20 < us.length ∨ gRs rs ∨ 12 < rs.length
set_option maxHeartbeats 2000000 in
theorem great8_yes (a : Option Addr) (len cap : Nat) (us : List Up) (ar : Option Addr) (lr cr : Nat) (rs : List Rn) (hg : g8 us rs) (w : World) (hu : IsUs w a len us) (hr : IsRs w ar lr rs) :
    Calls Try.prog 10 #[.slice a len cap, .slice ar lr cr] w fun x w' => x = .returned (.bool true) ∧ Below w.heap.size w w' := by
  unfold g8 at hg
  have hs1 := hu.size
  have hs2 := hr.size
  rw [hs1, hs2] at hg
  by_cases h1 : gAll len us
  · have HG := Lib.hid (greatAll_yes a len cap us h1 w hu)
    clear hu hr hg hs1 hs2 h1
    go_enter Try.func10, Try.ntmps10
    go_wp2_with fail
    refine HG.out.mono ?_
    rintro e w1 ⟨rfl, hb⟩
    have HB1 := Lib.hid hb
    clear hb
    go_wp2
    go_ret
    exact ⟨rfl, HB1.out⟩
  have hg := hg.resolve_left h1
  by_cases h2 : 20 < len
  · have HG := Lib.hid (greatAll_no a len cap us h1 w hu)
    have q : decide ((20 : Int) < (len : Int)) = true := decide_eq_true (by omega)
    clear hu hr hg hs1 hs2 h1
    go_enter Try.func10, Try.ntmps10
    go_wp2_with fail
    refine HG.out.mono ?_
    rintro e w1 ⟨rfl, hb⟩
    have HB1 := Lib.hid hb
    clear hb
    go_wp2
    go_ret
    exact ⟨rfl, HB1.out⟩
  have hg := hg.resolve_left h2
  by_cases h3 : gRs rs
  · have HG := Lib.hid (greatAll_no a len cap us h1 w hu)
    have HR := fun w h => Lib.hid (greatRs_yes ar lr cr rs h3 w h)
    have HI := Lib.hid hr
    have q : decide ((20 : Int) < (len : Int)) = false := decide_eq_false (by omega)
    clear hu hr hg hs1 hs2 h1 h2 h3
    go_enter Try.func10, Try.ntmps10
    go_wp2_with fail
    refine HG.out.mono ?_
    rintro e w1 ⟨rfl, hb⟩
    have HB1 := Lib.hid hb
    clear hb
    go_wp2_with fail
    refine (HR _ (isRs_below HI.out HB1.out)).out.mono ?_
    rintro e w2 ⟨rfl, hb⟩
    have HB2 := Lib.hid (Below.next HB1.out hb)
    clear hb HB1
    go_wp2
    go_ret
    exact ⟨rfl, HB2.out⟩
  have hg := hg.resolve_left h3
  · have HG := Lib.hid (greatAll_no a len cap us h1 w hu)
    have HR := fun w h => Lib.hid (greatRs_no ar lr cr rs h3 w h)
    have HI := Lib.hid hr
    have q : decide ((20 : Int) < (len : Int)) = false := decide_eq_false (by omega)
    have q2 : decide ((12 : Int) < (lr : Int)) = true := decide_eq_true (by omega)
    clear hu hr hg hs1 hs2 h1 h2 h3
    go_enter Try.func10, Try.ntmps10
    go_wp2_with fail
    refine HG.out.mono ?_
    rintro e w1 ⟨rfl, hb⟩
    have HB1 := Lib.hid hb
    clear hb
    go_wp2_with fail
    refine (HR _ (isRs_below HI.out HB1.out)).out.mono ?_
    rintro e w2 ⟨rfl, hb⟩
    have HB2 := Lib.hid (Below.next HB1.out hb)
    clear hb HB1
    go_wp2
    go_ret
    exact ⟨rfl, HB2.out⟩
set_option maxHeartbeats 2000000 in
theorem great8_no (a : Option Addr) (len cap : Nat) (us : List Up) (ar : Option Addr) (lr cr : Nat) (rs : List Rn) (hg : ¬ g8 us rs) (w : World) (hu : IsUs w a len us) (hr : IsRs w ar lr rs) :
    Calls Try.prog 10 #[.slice a len cap, .slice ar lr cr] w fun x w' => x = .returned (.bool false) ∧ Below w.heap.size w w' := by
  unfold g8 at hg
  have hs1 := hu.size
  have hs2 := hr.size
  rw [hs1, hs2] at hg
  have h1 : ¬ gAll len us := fun x => hg (.inl x)
  have h2 : ¬ 20 < len := fun x => hg (.inr (.inl x))
  have h3 : ¬ gRs rs := fun x => hg (.inr (.inr (.inl x)))
  have h4 : ¬ 12 < lr := fun x => hg (.inr (.inr (.inr x)))
  · have HG := Lib.hid (greatAll_no a len cap us h1 w hu)
    have HR := fun w h => Lib.hid (greatRs_no ar lr cr rs h3 w h)
    have HI := Lib.hid hr
    have q : decide ((20 : Int) < (len : Int)) = false := decide_eq_false (by omega)
    have q2 : decide ((12 : Int) < (lr : Int)) = false := decide_eq_false (by omega)
    clear hu hr hg hs1 hs2 h1 h2 h3
    go_enter Try.func10, Try.ntmps10
    go_wp2_with fail
    refine HG.out.mono ?_
    rintro e w1 ⟨rfl, hb⟩
    have HB1 := Lib.hid hb
    clear hb
    go_wp2_with fail
    refine (HR _ (isRs_below HI.out HB1.out)).out.mono ?_
    rintro e w2 ⟨rfl, hb⟩
    have HB2 := Lib.hid (Below.next HB1.out hb)
    clear hb HB1
    go_wp2
    go_ret
    exact ⟨rfl, HB2.out⟩
/-- What is played is short. -/
theorem g8_us {us : List Up} {rs : List Rn} (h : ¬ g8 us rs) : us.length ≤ 20 ∧ ∀ u ∈ us, u.1.size ≤ 100 ∧ Sh u.2.2.2 := by
  unfold g8 at h
  refine ⟨Nat.le_of_not_lt fun x => h (.inr (.inl x)), fun u hu => ?_⟩
  obtain ⟨i, hi, rfl⟩ := List.mem_iff_getElem.1 hu
  have h1 : ¬ gU (us.getD i up0) := fun hx => h (.inl (.inr ⟨i, hi, hx⟩))
  have e : us.getD i up0 = us[i] := by simp [List.getD_eq_getElem?_getD, hi]
  rw [e] at h1
  unfold gU at h1
  refine ⟨by omega, ?_⟩
  show us[i].2.2.2.size ≤ 100000
  omega
theorem g8_rs {us : List Up} {rs : List Rn} (h : ¬ g8 us rs) : rs.length ≤ 12 ∧ ∀ r ∈ rs, r.us.length ≤ 20 ∧ ∀ u ∈ r.us, u.1.size ≤ 100 ∧ Sh u.2.2.2 := by
  unfold g8 at h
  refine ⟨Nat.le_of_not_lt fun x => h (.inr (.inr (.inr x))), fun r hr => ?_⟩
  obtain ⟨i, hi, rfl⟩ := List.mem_iff_getElem.1 hr
  have e : rs.getD i rn0 = rs[i] := by simp [List.getD_eq_getElem?_getD, hi]
  have h1 : ¬ gR rs[i].us := fun hx => h (.inr (.inr (.inl (.inr ⟨i, hi, by rw [e]; exact hx⟩))))
  have h2 : ¬ g8 rs[i].us [] := by
    unfold g8 gRs
    rintro (x | x | x | x)
    · exact h1 (.inr x)
    · exact h1 (.inl x)
    · simp at x
    · simp at x
  exact g8_us h2
end Go.Proofs.Yteonmljchcekpaa
