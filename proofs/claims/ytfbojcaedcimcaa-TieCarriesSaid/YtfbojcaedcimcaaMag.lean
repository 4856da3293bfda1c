/-
  Texts of this claim, put together.
-/

/-
  What has come, out of its order: without its memory.
-/
namespace Go.Proofs.Ytfbojcaedcimcaa

section
variable {β γ : Type}
/-- Laid in by its number. -/
def ins (n : Nat) (b : β) : List (Nat × β) → List (Nat × β)
  | [] => [(n, b)]
  | x :: t => if x.1 < n then x :: ins n b t else (n, b) :: x :: t
/-- What goes on from n on, and what stays. -/
def goN : Nat → List (Nat × β) → List β × List (Nat × β)
  | _, [] => ([], [])
  | n, x :: t => if x.1 = n then (x.2 :: (goN (n + 1) t).1, (goN (n + 1) t).2) else ([], x :: t)
/-- Rising, from lo on and below hi. -/
def Up (lo hi : Nat) (l : List (Nat × β)) : Prop := l.Pairwise (fun x y => x.1 < y.1) ∧ ∀ x ∈ l, lo ≤ x.1 ∧ x.1 < hi

theorem up_nil (lo hi : Nat) : Up lo hi ([] : List (Nat × β)) := ⟨List.Pairwise.nil, fun x h => by cases h⟩
theorem Up.tail {lo hi : Nat} {x : Nat × β} {t : List (Nat × β)} (h : Up lo hi (x :: t)) : Up (x.1 + 1) hi t := by
  obtain ⟨h1, h2⟩ := h
  obtain ⟨h3, h4⟩ := List.pairwise_cons.1 h1
  exact ⟨h4, fun y hy => ⟨h3 y hy, (h2 y (List.mem_cons_of_mem _ hy)).2⟩⟩
theorem Up.len : ∀ {lo hi : Nat} {l : List (Nat × β)}, Up lo hi l → lo ≤ hi → l.length ≤ hi - lo
  | _, _, [], _, _ => Nat.zero_le _
  | lo, hi, x :: t, h, hl => by
    have h1 := (h.2 x (List.mem_cons_self ..))
    have := Up.len h.tail (by omega)
    rw [List.length_cons]
    omega
theorem Up.mono {lo hi lo2 hi2 : Nat} {l : List (Nat × β)} (h : Up lo hi l) (h1 : lo2 ≤ lo) (h2 : hi ≤ hi2) : Up lo2 hi2 l := ⟨h.1, fun x hx => by have := h.2 x hx; omega⟩

theorem lookup_cons' (m : Nat) (x : Nat × β) (t : List (Nat × β)) : (x :: t).lookup m = if m = x.1 then some x.2 else t.lookup m := by
  obtain ⟨a, b⟩ := x
  rw [List.lookup_cons]
  by_cases h : m = a
  · subst h
    rw [if_pos rfl, show (m == m) = true from beq_self_eq_true m]
  · rw [if_neg h, show (m == a) = false from beq_eq_false_iff_ne.2 h]
theorem lookup_other {m n : Nat} (b : β) (h : m ≠ n) : ∀ l : List (Nat × β), (ins n b l).lookup m = l.lookup m
  | [] => by rw [ins, lookup_cons', if_neg h]
  | x :: t => by
    rw [ins]
    split
    · rw [lookup_cons', lookup_cons', lookup_other b h t]
    · rw [lookup_cons', if_neg h]
theorem lookup_same {n : Nat} (b : β) : ∀ (l : List (Nat × β)), l.lookup n = none → (ins n b l).lookup n = some b
  | [], _ => by rw [ins, lookup_cons', if_pos rfl]
  | x :: t, h => by
    rw [lookup_cons'] at h
    have hx : n ≠ x.1 := fun e => by rw [if_pos e] at h; cases h
    rw [if_neg hx] at h
    rw [ins]
    split
    · rw [lookup_cons', if_neg hx]; exact lookup_same b t h
    · rw [lookup_cons', if_pos rfl]
theorem lookup_none {n : Nat} : ∀ {l : List (Nat × β)}, l.lookup n = none ↔ ∀ x ∈ l, x.1 ≠ n
  | [] => by simp
  | x :: t => by
    rw [lookup_cons']
    by_cases h : n = x.1
    · rw [if_pos h]
      simp only [reduceCtorEq, false_iff]
      intro hn
      exact hn x (List.mem_cons_self ..) h.symm
    · rw [if_neg h, lookup_none]
      constructor
      · intro hn y hy
        rcases List.mem_cons.1 hy with rfl | hy
        · exact fun e => h e.symm
        · exact hn y hy
      · exact fun hn y hy => hn y (List.mem_cons_of_mem _ hy)
theorem ins_mem {n : Nat} {b : β} {y : Nat × β} : ∀ {l : List (Nat × β)}, y ∈ ins n b l ↔ y = (n, b) ∨ y ∈ l
  | [] => by simp [ins]
  | x :: t => by
    rw [ins]
    split
    · rw [List.mem_cons, List.mem_cons, ins_mem]
      constructor
      · rintro (h | h | h)
        · exact Or.inr (Or.inl h)
        · exact Or.inl h
        · exact Or.inr (Or.inr h)
      · rintro (h | h | h)
        · exact Or.inr (Or.inl h)
        · exact Or.inl h
        · exact Or.inr (Or.inr h)
    · rw [List.mem_cons]
theorem ins_len (n : Nat) (b : β) : ∀ l : List (Nat × β), (ins n b l).length = l.length + 1
  | [] => rfl
  | x :: t => by
    rw [ins]
    split
    · rw [List.length_cons, ins_len n b t, List.length_cons]
    · rfl
theorem Up.ins {lo hi n : Nat} (b : β) : ∀ {l : List (Nat × β)}, Up lo hi l → lo ≤ n → n < hi → l.lookup n = none → Up lo hi (ins n b l)
  | [], _, h1, h2, _ => ⟨List.pairwise_singleton .., fun x hx => by
      obtain rfl := List.mem_singleton.1 hx
      exact ⟨h1, h2⟩⟩
  | x :: t, h, h1, h2, h3 => by
    have hne := lookup_none.1 h3
    have ht := lookup_none.2 (fun y hy => hne y (List.mem_cons_of_mem x hy))
    refine ⟨?_, fun y hy => ?_⟩
    · rw [Go.Proofs.Ytfbojcaedcimcaa.ins]
      split
      · rename_i hlt
        have r := Up.ins b h.tail (show x.1 + 1 ≤ n by omega) h2 ht
        exact List.pairwise_cons.2 ⟨fun y hy => by have := (r.2 y hy).1; omega, r.1⟩
      · rename_i hlt
        have hx := hne x (List.mem_cons_self ..)
        refine List.pairwise_cons.2 ⟨fun y hy => ?_, h.1⟩
        rcases List.mem_cons.1 hy with rfl | hy
        · show n < y.1
          omega
        · have := (h.tail.2 y hy).1
          show n < y.1
          omega
    · rcases ins_mem.1 hy with rfl | hy
      · exact ⟨h1, h2⟩
      · exact h.2 y hy
/-- The first is there just if it stands ahead. -/
theorem up_first {n hi : Nat} {l : List (Nat × β)} {b : β} (h : Up n hi l) (hs : l.lookup n = some b) : ∃ t, l = (n, b) :: t := by
  cases l with
  | nil => simp at hs
  | cons x t =>
    rw [lookup_cons'] at hs
    by_cases e : n = x.1
    · rw [if_pos e] at hs
      cases hs
      exact ⟨t, by rw [e]⟩
    · rw [if_neg e] at hs
      have h2 := h.tail
      have := (h.2 x (List.mem_cons_self ..)).1
      rw [lookup_none.2 (fun y hy => by have := (h2.2 y hy).1; omega)] at hs
      cases hs
theorem up_none {n hi : Nat} {l : List (Nat × β)} (h : Up n hi l) (hs : l.lookup n = none) : Up (n + 1) hi l ∧ goN n l = ([], l) := by
  have hne := lookup_none.1 hs
  refine ⟨⟨h.1, fun x hx => ?_⟩, ?_⟩
  · have := h.2 x hx
    have := hne x hx
    omega
  · cases l with
    | nil => rfl
    | cons x t => rw [goN, if_neg (hne x (List.mem_cons_self ..))]
theorem goN_first {n : Nat} {b : β} {t : List (Nat × β)} : goN n ((n, b) :: t) = (b :: (goN (n + 1) t).1, (goN (n + 1) t).2) := by rw [goN, if_pos rfl]
theorem goN_up : ∀ {n hi : Nat} {l : List (Nat × β)}, Up n hi l → n ≤ hi → Up (n + (goN n l).1.length + 1) hi (goN n l).2 ∧ n + (goN n l).1.length ≤ hi ∧ (goN n l).1.length + (goN n l).2.length = l.length
  | n, hi, [], _, hn => ⟨up_nil _ _, hn, rfl⟩
  | n, hi, x :: t, h, hn => by
    rw [goN]
    split
    · rename_i e
      have h1 := (h.2 x (List.mem_cons_self ..)).2
      have ht := h.tail
      rw [e] at ht
      obtain ⟨r1, r2, r3⟩ := goN_up ht (show n + 1 ≤ hi by omega)
      dsimp only
      refine ⟨?_, ?_, ?_⟩
      · rw [List.length_cons, show n + ((goN (n + 1) t).1.length + 1) + 1 = n + 1 + (goN (n + 1) t).1.length + 1 by omega]
        exact r1
      · rw [List.length_cons]; omega
      · rw [List.length_cons, List.length_cons]; omega
    · rename_i e
      refine ⟨⟨h.1, fun y hy => ?_⟩, hn, by simp⟩
      have hy2 := h.2 y hy
      have : n < x.1 := by have := (h.2 x (List.mem_cons_self ..)).1; omega
      simp only [List.length_nil, Nat.add_zero]
      rcases List.mem_cons.1 hy with rfl | hy
      · omega
      · have := (h.tail.2 y hy).1
        omega

/-- With another kind of body. -/
def mapN (f : β → γ) (l : List (Nat × β)) : List (Nat × γ) := l.map fun x => (x.1, f x.2)
theorem mapN_cons (f : β → γ) (x : Nat × β) (t : List (Nat × β)) : mapN f (x :: t) = (x.1, f x.2) :: mapN f t := rfl
theorem mapN_ins (f : β → γ) (n : Nat) (b : β) : ∀ l : List (Nat × β), mapN f (ins n b l) = ins n (f b) (mapN f l)
  | [] => rfl
  | x :: t => by
    rw [ins, mapN_cons, ins]
    split
    · rw [mapN_cons, mapN_ins f n b t]
    · rfl
theorem mapN_go (f : β → γ) : ∀ (n : Nat) (l : List (Nat × β)), goN n (mapN f l) = ((goN n l).1.map f, mapN f (goN n l).2)
  | _, [] => rfl
  | n, x :: t => by
    rw [mapN_cons, goN, goN]
    split
    · rw [mapN_go f (n + 1) t]
      rfl
    · rfl
theorem mapN_lookup (f : β → γ) (n : Nat) : ∀ l : List (Nat × β), (mapN f l).lookup n = (l.lookup n).map f
  | [] => rfl
  | x :: t => by
    rw [mapN_cons, lookup_cons', lookup_cons', mapN_lookup f n t]
    split <;> rfl
theorem mapN_up {f : β → γ} {lo hi : Nat} {l : List (Nat × β)} (h : Up lo hi (mapN f l)) : Up lo hi l := by
  refine ⟨?_, fun x hx => h.2 _ (List.mem_map.2 ⟨x, hx, rfl⟩)⟩
  have := h.1
  unfold mapN at this
  rwa [List.pairwise_map] at this
theorem mapN_len (f : β → γ) (l : List (Nat × β)) : (mapN f l).length = l.length := List.length_map ..
end

/-- The window, what comes next, what is held. -/
structure Dk where
  win : Nat
  next : Nat
  held : List (Nat × ByteArray)

namespace Dk
/-- Is it new? -/
def may (S : Dk) (n : Nat) : Bool := decide (S.next ≤ n) && decide (n - S.next < S.win) && (S.held.lookup n).isNone
/-- What goes on when it comes; what is then. -/
def went (S : Dk) (n : Nat) (s : ByteArray) : List ByteArray := (goN S.next (ins n s S.held)).1
def take (S : Dk) (n : Nat) (s : ByteArray) : Dk := { S with next := S.next + (S.went n s).length, held := (goN S.next (ins n s S.held)).2 }
/-- Whatever comes. -/
def came (S : Dk) (n : Nat) (s : ByteArray) : Dk := if S.may n then S.take n s else S
def gave (S : Dk) (n : Nat) (s : ByteArray) : List ByteArray := if S.may n then S.went n s else []
/-- It may be; at most c have gone on. -/
structure ok (S : Dk) (c : Nat) : Prop where
  win : 1 ≤ S.win ∧ S.win ≤ 16
  next : 1 ≤ S.next ∧ S.next + S.held.length ≤ c + 1
  up : Up (S.next + 1) (S.next + S.win) S.held

def new (win : Nat) : Dk := ⟨win, 1, []⟩
theorem ok_new {win : Nat} (h : 1 ≤ win ∧ win ≤ 16) : (new win).ok 0 := ⟨h, ⟨Nat.le_refl _, Nat.le_refl _⟩, up_nil _ _⟩
theorem ok.len {S : Dk} {c : Nat} (h : S.ok c) : S.held.length ≤ 15 ∧ S.held.length < S.win := by
  have h1 := h.up.len (by have := h.win.1; omega)
  have := h.win
  omega
theorem ok.more {S : Dk} {c d : Nat} (h : S.ok c) (hc : c ≤ d) : S.ok d := ⟨h.win, ⟨h.next.1, by have := h.next.2; omega⟩, h.up⟩
theorem may_is {S : Dk} {n : Nat} : S.may n = true ↔ S.next ≤ n ∧ n < S.next + S.win ∧ S.held.lookup n = none := by
  unfold may
  simp only [Bool.and_eq_true, decide_eq_true_eq, Option.isNone_iff_eq_none]
  constructor
  · rintro ⟨⟨h1, h2⟩, h3⟩
    exact ⟨h1, by omega, h3⟩
  · rintro ⟨h1, h2, h3⟩
    exact ⟨⟨h1, by omega⟩, h3⟩
theorem ok.ins {S : Dk} {c n : Nat} (h : S.ok c) (hm : S.may n = true) (s : ByteArray) : Up S.next (S.next + S.win) (ins n s S.held) := by
  obtain ⟨h1, h2, h3⟩ := may_is.1 hm
  exact (h.up.mono (by omega) (Nat.le_refl _)).ins s h1 h2 h3
theorem ok.take {S : Dk} {c n : Nat} (h : S.ok c) (hm : S.may n = true) (s : ByteArray) : (S.take n s).ok (c + 1) := by
  obtain ⟨h1, h2, h3⟩ := goN_up (h.ins hm s) (by omega)
  rw [ins_len] at h3
  have hn := h.next
  exact ⟨h.win, ⟨by show 1 ≤ S.next + _; omega, by show S.next + (goN _ _).1.length + (goN _ _).2.length ≤ _; omega⟩, h1.mono (Nat.le_refl _) (by show _ ≤ S.next + _ + S.win; omega)⟩
theorem ok.came {S : Dk} {c n : Nat} (h : S.ok c) (s : ByteArray) : (S.came n s).ok (c + 1) := by
  unfold Dk.came
  split
  · rename_i hm
    exact h.take hm s
  · exact h.more (by omega)
end Dk

end Go.Proofs.Ytfbojcaedcimcaa

/-
  What has come is a beginning of what was sent: without its memory.
-/
namespace Go.Proofs.Ytfbojcaedcimcaa

/-- It is a piece of the row, by its number. -/
def Piece (l : List ByteArray) (x : Nat × ByteArray) : Prop := 1 ≤ x.1 ∧ l[x.1 - 1]? = some x.2

/-- What goes on is the row from there on. -/
theorem go_piece (l : List ByteArray) : ∀ (n : Nat) (E : List (Nat × ByteArray)), (∀ x ∈ E, Piece l x) → 1 ≤ n → n - 1 ≤ l.length →
    (goN n E).1 = (l.drop (n - 1)).take (goN n E).1.length ∧ n - 1 + (goN n E).1.length ≤ l.length ∧ ∀ x ∈ (goN n E).2, Piece l x
  | n, [], _, _, h2 => ⟨by simp [goN], by simpa [goN] using h2, fun x hx => by simp [goN] at hx⟩
  | n, x :: t, h, h1, h2 => by
    rw [goN]
    split
    · rename_i e
      obtain ⟨-, hp⟩ := h x (List.mem_cons_self ..)
      rw [e] at hp
      have hlt : n - 1 < l.length := (List.getElem?_eq_some_iff.1 hp).1
      obtain ⟨r1, r2, r3⟩ := go_piece l (n + 1) t (fun y hy => h y (List.mem_cons_of_mem _ hy)) (by omega) (by omega)
      dsimp only
      rw [List.length_cons]
      refine ⟨?_, by omega, r3⟩
      have e2 : l.drop (n - 1) = x.2 :: l.drop (n + 1 - 1) := by
        rw [List.drop_eq_getElem_cons hlt, show n - 1 + 1 = n + 1 - 1 by omega]
        congr 1
        rw [List.getElem?_eq_getElem hlt] at hp
        exact Option.some.inj hp
      rw [e2, List.take_succ_cons, ← r1]
    · dsimp only
      exact ⟨by simp, by simpa using h2, h⟩

/-- The row so far: so many have gone on; what is held are pieces of it. -/
structure Ord (l : List ByteArray) (n : Nat) (S : Dk) : Prop where
  next : S.next = n + 1
  le : n ≤ l.length
  held : ∀ x ∈ S.held, Piece l x
theorem Ord.came {l : List ByteArray} {n i : Nat} {S : Dk} {s : ByteArray} (h : Ord l n S) (hi : l[i]? = some s) : Ord l (n + (S.gave (i + 1) s).length) (S.came (i + 1) s) ∧ S.gave (i + 1) s = (l.drop n).take (S.gave (i + 1) s).length := by
  unfold Dk.came Dk.gave
  cases S.may (i + 1)
  · exact ⟨⟨h.next, h.le, h.held⟩, by simp⟩
  · have hp : ∀ x ∈ ins (i + 1) s S.held, Piece l x := fun x hx => by
      rcases ins_mem.1 hx with rfl | hx
      · exact ⟨by show 1 ≤ i + 1; omega, hi⟩
      · exact h.held x hx
    obtain ⟨r1, r2, r3⟩ := go_piece l S.next _ hp (by have := h.next; omega) (by have := h.next; have := h.le; omega)
    have hn : S.next - 1 = n := by have := h.next; omega
    rw [hn] at r1 r2
    simp only [if_true]
    unfold Dk.take Dk.went
    exact ⟨⟨by show S.next + _ = _; have := h.next; omega, r2, r3⟩, r1⟩
theorem Dk.came_win (S : Dk) (n : Nat) (s : ByteArray) : (S.came n s).win = S.win := by unfold Dk.came; split <;> rfl

end Go.Proofs.Ytfbojcaedcimcaa
