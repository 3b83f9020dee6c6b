/- The plain mathematics of an arena: blocks with what they have, how large they are and their generation; what is charged, how many live, the least free slot; what each deed makes of them. -/
import Derived.Test.YtglhebpblncjaaaDoorSizeMath
namespace Go.Proofs.YtglhebpblncjaaaDoor
set_option linter.unusedVariables false

/-- A slot: what its block has, what is charged for it (0: it is free), its generation. -/
structure Blk where
  t : List UInt8
  r : Int
  g : Int
/-- A slot that never had a block. -/
def blank : Blk := ⟨[], 0, 1⟩
/-- An arena: its capacity, its limit, the slots that ever had a block. -/
structure Ar where
  cap : Int
  lim : Int
  l : List Blk

def bk (l : List Blk) (i : Nat) : Blk := l.getD i blank
def chg : List Blk → Int
  | [] => 0
  | b :: l => b.r + chg l
def liv : List Blk → Int
  | [] => 0
  | b :: l => (if b.r = 0 then 0 else 1) + liv l
def lvb (l : List Blk) (i : Nat) : Bool := (bk l i).r != 0
def fre : List Blk → Nat
  | [] => 0
  | b :: l => if b.r = 0 then 0 else fre l + 1
/-- Is a handle of a block that lives? -/
def hit (l : List Blk) (i : Nat) (gn : Int) : Bool := (bk l i).r != 0 && (bk l i).g == gn

theorem bk_of {l : List Blk} {i : Nat} (h : i < l.length) : bk l i = l[i] := by simp [bk, List.getD, h]
theorem bk_ge {l : List Blk} {i : Nat} (h : l.length ≤ i) : bk l i = blank := by simp [bk, List.getD, h]
theorem bk_zero (b : Blk) (l : List Blk) : bk (b :: l) 0 = b := rfl
theorem bk_succ (b : Blk) (l : List Blk) (i : Nat) : bk (b :: l) (i + 1) = bk l i := by simp [bk, List.getD]
theorem bk_get {l : List Blk} {i : Nat} (h : i < l.length) : l[i]? = some (bk l i) := by rw [bk_of h]; exact List.getElem?_eq_getElem h
theorem bk_mem {l : List Blk} {i : Nat} (h : i < l.length) : bk l i ∈ l := by rw [bk_of h]; exact List.getElem_mem h
theorem bk_set {l : List Blk} {i : Nat} (h : i < l.length) (b : Blk) (j : Nat) : bk (l.set i b) j = if j = i then b else bk l j := by
  by_cases e : j = i
  · subst e; simp [bk, List.getD, h]
  · have : i ≠ j := fun h => e h.symm
    simp [bk, List.getD, e, this]
theorem bk_snoc (l : List Blk) (b : Blk) (j : Nat) : bk (l ++ [b]) j = if j = l.length then b else bk l j := by
  by_cases e : j = l.length
  · subst e; simp [bk, List.getD]
  · rw [if_neg e]
    by_cases h : j < l.length
    · simp [bk, List.getD, List.getElem?_append, h]
    · rw [bk_ge (by simp; omega), bk_ge (by omega)]

theorem fre_le (l : List Blk) : fre l ≤ l.length := by
  induction l with
  | nil => simp [fre]
  | cons b r ih => simp only [fre]; split <;> simp <;> omega
theorem fre_lives (l : List Blk) : ∀ j, j < fre l → lvb l j = true := by
  induction l with
  | nil => intro j h; simp [fre] at h
  | cons b r ih =>
    intro j h
    simp only [fre] at h
    split at h
    · omega
    · cases j with
      | zero => simpa [lvb, bk_zero] using ‹¬ _›
      | succ j => have := ih j (by omega); simpa [lvb, bk_succ] using this
theorem fre_free (l : List Blk) : lvb l (fre l) = false := by
  induction l with
  | nil => rfl
  | cons b r ih =>
    simp only [fre]
    split
    · simpa [lvb, bk_zero] using ‹_›
    · simpa [lvb, bk_succ] using ih
theorem fre_of {l : List Blk} {k : Nat} (h : ∀ j, j < k → lvb l j = true) (h0 : lvb l k = false) : fre l = k := by
  rcases Nat.lt_trichotomy (fre l) k with h1 | h1 | h1
  · have := h _ h1; rw [fre_free] at this; cases this
  · exact h1
  · have := fre_lives l _ h1; rw [h0] at this; cases this
theorem fre_ge {l : List Blk} {k : Nat} (h : ∀ j, j < k → lvb l j = true) : k ≤ fre l := by
  rcases Nat.lt_or_ge (fre l) k with h1 | h1
  · have := h _ h1; rw [fre_free] at this; cases this
  · exact h1
theorem lvb_ge {l : List Blk} {i : Nat} (h : l.length ≤ i) : lvb l i = false := by rw [lvb, bk_ge h]; rfl
theorem fre_r (l : List Blk) : (bk l (fre l)).r = 0 := by have := fre_free l; simpa [lvb] using this

theorem chg_set {l : List Blk} {i : Nat} (h : i < l.length) (b : Blk) : chg (l.set i b) = chg l - (bk l i).r + b.r := by
  induction l generalizing i with
  | nil => simp at h
  | cons c r ih =>
    cases i with
    | zero => simp only [List.set_cons_zero, chg, bk_zero]; omega
    | succ i => simp only [List.set_cons_succ, chg, bk_succ]; rw [ih (by simpa using h)]; omega
theorem chg_snoc (l : List Blk) (b : Blk) : chg (l ++ [b]) = chg l + b.r := by
  induction l with
  | nil => simp [chg]
  | cons c r ih => simp only [List.cons_append, chg, ih]; omega
def one (r : Int) : Int := if r = 0 then 0 else 1
theorem liv_set {l : List Blk} {i : Nat} (h : i < l.length) (b : Blk) : liv (l.set i b) = liv l - one (bk l i).r + one b.r := by
  induction l generalizing i with
  | nil => simp at h
  | cons c r ih =>
    cases i with
    | zero => simp only [List.set_cons_zero, liv, bk_zero, one]; omega
    | succ i => simp only [List.set_cons_succ, liv, bk_succ]; rw [ih (by simpa using h)]; omega
theorem liv_snoc (l : List Blk) (b : Blk) : liv (l ++ [b]) = liv l + one b.r := by
  induction l with
  | nil => simp [liv, one]
  | cons c r ih => simp only [List.cons_append, liv, ih]; omega
theorem liv_bd (l : List Blk) : 0 ≤ liv l ∧ liv l ≤ l.length := by
  induction l with
  | nil => simp [liv]
  | cons c r ih => simp only [liv, List.length_cons]; split <;> omega

/-- What each slot is. -/
def Okb (b : Blk) : Prop := (b.r = 0 ∨ 16 ≤ b.r) ∧ b.r ≤ 1024 ∧ 0 ≤ b.g ∧ b.g ≤ 4294967295
def Okl (l : List Blk) : Prop := ∀ b ∈ l, Okb b
theorem blank_ok : Okb blank := by simp [Okb, blank]
theorem Okl.at_ {l : List Blk} (h : Okl l) (i : Nat) : Okb (bk l i) := by
  by_cases hi : i < l.length
  · exact h _ (bk_mem hi)
  · rw [bk_ge (by omega)]; exact blank_ok
theorem Okl.set {l : List Blk} (h : Okl l) (i : Nat) {b : Blk} (hb : Okb b) : Okl (l.set i b) := fun c hc => by
  rcases List.mem_or_eq_of_mem_set hc with h1 | h1
  · exact h _ h1
  · rw [h1]; exact hb
theorem Okl.snoc {l : List Blk} (h : Okl l) {b : Blk} (hb : Okb b) : Okl (l ++ [b]) := fun c hc => by
  rcases List.mem_append.1 hc with h1 | h1
  · exact h _ h1
  · simp at h1; rw [h1]; exact hb
theorem chg_ge {l : List Blk} (h : Okl l) : 0 ≤ chg l := by
  induction l with
  | nil => simp [chg]
  | cons c r ih =>
    have h1 := ih (fun b hb => h b (by simp [hb]))
    have h2 := h c (by simp)
    simp only [Okb] at h2
    simp only [chg]; omega
theorem chg_bk {l : List Blk} (h : Okl l) (i : Nat) : (bk l i).r ≤ chg l := by
  induction l generalizing i with
  | nil => simp [chg, bk, blank]
  | cons c r ih =>
    have h1 := ih (fun b hb => h b (by simp [hb]))
    have h2 := h c (by simp)
    have h3 := chg_ge (l := r) (fun b hb => h b (by simp [hb]))
    simp only [Okb] at h2
    simp only [chg]
    cases i with
    | zero => rw [bk_zero]; omega
    | succ i => rw [bk_succ]; have := h1 i; omega

/-- An arena as it may be. -/
structure Wf (s : Ar) : Prop where
  lim0 : 0 ≤ s.lim
  limc : s.lim ≤ s.cap
  cap1 : s.cap ≤ 16777216
  len : s.l.length ≤ 4096
  chl : chg s.l ≤ s.lim
  ok : Okl s.l

/-- What the least free slot becomes. -/
def tkb (l : List Blk) (t : List UInt8) (r : Int) : Blk := ⟨t, r, (bk l (fre l)).g⟩
def tak (l : List Blk) (t : List UInt8) (r : Int) : List Blk := if fre l < l.length then l.set (fre l) (tkb l t r) else l ++ [tkb l t r]
theorem tak_bk (l : List Blk) (t : List UInt8) (r : Int) (j : Nat) : bk (tak l t r) j = if j = fre l then tkb l t r else bk l j := by
  have := fre_le l
  unfold tak
  split
  · rw [bk_set ‹_›]
  · rw [bk_snoc, show l.length = fre l by omega]
theorem tak_chg (l : List Blk) (t : List UInt8) (r : Int) : chg (tak l t r) = chg l + r := by
  have h := fre_r l
  unfold tak
  split
  · rw [chg_set ‹_›, h]; simp [tkb]
  · rw [chg_snoc]; rfl
theorem tak_liv (l : List Blk) (t : List UInt8) (r : Int) (hr : r ≠ 0) : liv (tak l t r) = liv l + 1 := by
  have h := fre_r l
  unfold tak
  split
  · rw [liv_set ‹_›, h]; simp [tkb, one, hr]
  · rw [liv_snoc]; simp [tkb, one, hr]
theorem tak_len (l : List Blk) (t : List UInt8) (r : Int) : (tak l t r).length = if fre l < l.length then l.length else l.length + 1 := by
  unfold tak; split <;> simp
theorem tak_ok {l : List Blk} (h : Okl l) (t : List UInt8) {r : Int} (h1 : 16 ≤ r) (h2 : r ≤ 1024) : Okl (tak l t r) := by
  have hb := h.at_ (fre l)
  have : Okb (tkb l t r) := ⟨.inr h1, h2, hb.2.2.1, hb.2.2.2⟩
  unfold tak
  split
  · exact h.set _ this
  · exact h.snoc this
/-- The error of Alloc, of so many bytes. -/
def aerr (s : Ar) (n : Int) : Int := if rok n = false then 1 else if s.lim < chg s.l + rnd n then 9 else if 4096 ≤ fre s.l then 11 else 0
/-- The arena behind Alloc. -/
def alo (s : Ar) (t : List UInt8) : Ar := if aerr s t.length = 0 then ⟨s.cap, s.lim, tak s.l t (rnd t.length)⟩ else s
/-- The handle of Alloc. -/
def aslot (s : Ar) (n : Int) : Int := if aerr s n = 0 then fre s.l else 0
def agen (s : Ar) (n : Int) : Int := if aerr s n = 0 then (bk s.l (fre s.l)).g else 0
theorem rnd16 {n : Int} (h : rok n = true) : 16 ≤ rnd n ∧ rnd n ≤ 1024 ∧ n ≤ rnd n := by
  simp [rok] at h
  obtain ⟨k, hk, _, h3, h4, _⟩ := rnd_of h.1 h.2
  have := cv_cases hk
  rw [h3]; omega
theorem aerr_ok {s : Ar} {n : Int} (h : aerr s n = 0) : rok n = true ∧ chg s.l + rnd n ≤ s.lim ∧ fre s.l < 4096 := by
  unfold aerr at h
  split at h
  · cases h
  · split at h
    · cases h
    · split at h
      · cases h
      · refine ⟨by simpa using ‹¬ rok n = false›, by omega, by omega⟩
theorem aerr_of {s : Ar} {n : Int} (h1 : rok n = true) (h2 : chg s.l + rnd n ≤ s.lim) (h3 : fre s.l < 4096) : aerr s n = 0 := by
  unfold aerr
  rw [if_neg (by simp [h1]), if_neg (by omega), if_neg (by omega)]
theorem alo_wf {s : Ar} (h : Wf s) (t : List UInt8) : Wf (alo s t) := by
  unfold alo
  split
  · obtain ⟨h1, h2, h3⟩ := aerr_ok ‹_›
    have hr := rnd16 h1
    refine ⟨h.lim0, h.limc, h.cap1, ?_, ?_, tak_ok h.ok _ hr.1 hr.2.1⟩
    · have := fre_le s.l
      have := h.len
      show (tak _ _ _).length ≤ 4096
      rw [tak_len]; split <;> omega
    · show chg (tak _ _ _) ≤ s.lim
      rw [tak_chg]; omega
  · exact h

/-- The slot's block has another text. -/
def ptb (b : Blk) (t : List UInt8) : Blk := ⟨t, b.r, b.g⟩
/-- May it be put there? -/
def pok (s : Ar) (i : Nat) (gn n : Int) : Bool := hit s.l i gn && decide (n ≤ (bk s.l i).r)
def pto (s : Ar) (i : Nat) (gn : Int) (t : List UInt8) : Ar := if pok s i gn t.length = true then ⟨s.cap, s.lim, s.l.set i (ptb (bk s.l i) t)⟩ else s
/-- The slot is free, of the next generation. -/
def frb (b : Blk) : Blk := ⟨[], 0, (b.g + 1) % 4294967296⟩
def fro (s : Ar) (i : Nat) (gn : Int) : Ar := if hit s.l i gn = true then ⟨s.cap, s.lim, s.l.set i (frb (bk s.l i))⟩ else s
def serr (s : Ar) (n : Int) : Int := if n < 0 ∨ s.cap < n then 1 else if n < chg s.l then 9 else 0
def sto (s : Ar) (n : Int) : Ar := if serr s n = 0 then ⟨s.cap, n, s.l⟩ else s
def got (s : Ar) (i : Nat) (gn : Int) : List UInt8 := if hit s.l i gn = true then (bk s.l i).t else []
def fits (s : Ar) (l : List Int) : Bool := smk l && decide (chg s.l + smv l ≤ s.lim)

theorem hit_lt {l : List Blk} {i : Nat} {gn : Int} (h : hit l i gn = true) : i < l.length := by
  rcases Nat.lt_or_ge i l.length with h1 | h1
  · exact h1
  · rw [hit, bk_ge h1] at h; simp [blank] at h
theorem hit_r {l : List Blk} {i : Nat} {gn : Int} (h : hit l i gn = true) : (bk l i).r ≠ 0 ∧ (bk l i).g = gn := by
  simpa [hit] using h
theorem frb_ok (b : Blk) (h : Okb b) : Okb (frb b) := by
  refine ⟨.inl rfl, by simp [frb], ?_, ?_⟩ <;> simp only [frb] <;> omega
theorem pto_wf {s : Ar} (h : Wf s) (i : Nat) (gn : Int) (t : List UInt8) : Wf (pto s i gn t) := by
  unfold pto
  split
  · have hp : hit s.l i gn = true := by have := ‹pok _ _ _ _ = true›; simp [pok] at this; exact this.1
    have hl := hit_lt hp
    refine ⟨h.lim0, h.limc, h.cap1, by simpa using h.len, ?_, h.ok.set _ (h.ok.at_ i)⟩
    show chg (s.l.set _ _) ≤ s.lim
    rw [chg_set hl]; have := h.chl; simp only [ptb]; omega
  · exact h
theorem fro_wf {s : Ar} (h : Wf s) (i : Nat) (gn : Int) : Wf (fro s i gn) := by
  unfold fro
  split
  · have hl := hit_lt ‹_›
    refine ⟨h.lim0, h.limc, h.cap1, by simpa using h.len, ?_, h.ok.set _ (frb_ok _ (h.ok.at_ i))⟩
    show chg (s.l.set _ _) ≤ s.lim
    have h1 := h.ok.at_ i
    simp only [Okb] at h1
    rw [chg_set hl]; have := h.chl; simp only [frb]; omega
  · exact h
theorem sto_wf {s : Ar} (h : Wf s) (n : Int) : Wf (sto s n) := by
  unfold sto
  split
  · have he := ‹serr s n = 0›
    unfold serr at he
    split at he
    · cases he
    · split at he
      · cases he
      · exact ⟨by show 0 ≤ n; omega, by show n ≤ s.cap; omega, h.cap1, h.len, by show chg s.l ≤ n; omega, h.ok⟩
  · exact h
theorem new_wf {c : Int} (h0 : 0 ≤ c) (h1 : c ≤ 16777216) : Wf ⟨c, c, []⟩ :=
  ⟨h0, Int.le_refl _, h1, by simp, by simpa [chg] using h0, fun b hb => by cases hb⟩
end Go.Proofs.YtglhebpblncjaaaDoor
