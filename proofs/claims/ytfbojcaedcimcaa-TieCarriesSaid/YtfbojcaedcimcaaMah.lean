/-
  Texts of this claim, put together.
-/
import Derived.Test.YtfbojcaedcimcaaMaf
import Derived.Test.YtfbojcaedcimcaaMag

/-
  A link between two ends: what is under way, what has come. Without its memory.
-/
namespace Go.Proofs.Ytfbojcaedcimcaa

/-- The pieces that went out, numbered from g + 1 on. -/
def numd : Nat → List ByteArray → List (Nat × ByteArray)
  | _, [] => []
  | g, s :: t => (g + 1, s) :: numd (g + 1) t
theorem numd_mem {l : List ByteArray} : ∀ (ss : List ByteArray) (g : Nat), ss = (l.drop g).take ss.length → ∀ x ∈ numd g ss, g + 1 ≤ x.1 ∧ x.1 ≤ g + ss.length ∧ Piece l x
  | [], _, _, x, hx => by cases hx
  | s :: t, g, h, x, hx => by
    have hg : g < l.length := by
      rcases Nat.lt_or_ge g l.length with h1 | h1
      · exact h1
      · rw [List.drop_eq_nil_of_le h1] at h
        simp at h
    rw [List.drop_eq_getElem_cons hg, List.length_cons, List.take_succ_cons] at h
    obtain ⟨h1, h2⟩ := List.cons.inj h
    rw [List.length_cons]
    rcases List.mem_cons.1 hx with rfl | hx
    · refine ⟨Nat.le_refl _, by show g + 1 ≤ _; omega, by show 1 ≤ g + 1; omega, ?_⟩
      show l[g + 1 - 1]? = some s
      rw [Nat.add_sub_cancel, List.getElem?_eq_getElem hg, h1]
    · obtain ⟨r1, r2, r3⟩ := numd_mem t (g + 1) h2 x hx
      exact ⟨by omega, by omega, r3⟩
theorem numd_has : ∀ (ss : List ByteArray) (g k : Nat), g < k → k ≤ g + ss.length → ∃ s, (k, s) ∈ numd g ss
  | [], g, k, h1, h2 => by
    rw [List.length_nil] at h2
    omega
  | s :: t, g, k, h1, h2 => by
    rw [List.length_cons] at h2
    rcases Nat.lt_or_ge (g + 1) k with h | h
    · obtain ⟨r, hr⟩ := numd_has t (g + 1) k h (by omega)
      exact ⟨r, List.mem_cons_of_mem _ hr⟩
    · obtain rfl : k = g + 1 := by omega
      exact ⟨s, List.mem_cons_self ..⟩
theorem piece_take {l : List ByteArray} {m : Nat} {x : Nat × ByteArray} : Piece (l.take m) x ↔ x.1 ≤ m ∧ Piece l x := by
  unfold Piece
  rw [List.getElem?_take]
  constructor
  · rintro ⟨h1, h2⟩
    split at h2
    · exact ⟨by omega, h1, h2⟩
    · cases h2
  · rintro ⟨h0, h1, h2⟩
    rw [if_pos (by omega)]
    exact ⟨h1, h2⟩
theorem piece_more {l r : List ByteArray} {x : Nat × ByteArray} (h : Piece l x) : Piece (l ++ r) x := by
  refine ⟨h.1, ?_⟩
  rw [List.getElem?_append_left (List.getElem?_eq_some_iff.1 h.2).1]
  exact h.2

/-- Data on its way: it is a piece of what was pushed, and went out. -/
def DataOk (S : Sh) (x : Nat × ByteArray) : Prop := x.1 ≤ S.last ∧ Piece S.all x
/-- An ack on its way: so much has come. -/
def AckOk (D : Dk) (k : Nat) : Prop := k + 1 ≤ D.next
/-- The same ship, later. -/
structure Lat (S T : Sh) : Prop where
  last : S.last ≤ T.last
  all : ∃ r, T.all = S.all ++ r
  win : T.win = S.win
theorem Lat.refl (S : Sh) : Lat S S := ⟨Nat.le_refl _, ⟨[], by simp⟩, rfl⟩
theorem Lat.trans {S T U : Sh} (h : Lat S T) (g : Lat T U) : Lat S U := by
  obtain ⟨r, hr⟩ := h.all
  obtain ⟨q, hq⟩ := g.all
  exact ⟨Nat.le_trans h.last g.last, ⟨r ++ q, by rw [hq, hr, List.append_assoc]⟩, g.win.trans h.win⟩
theorem DataOk.later {S T : Sh} {x : Nat × ByteArray} (h : DataOk S x) (l : Lat S T) : DataOk T x := by
  obtain ⟨r, hr⟩ := l.all
  exact ⟨Nat.le_trans h.1 l.last, by rw [hr]; exact piece_more h.2⟩
theorem Sh.last_all {S : Sh} {n : Nat} (h : S.ok n) : S.last ≤ S.all.length := by
  have := Sh.sum h
  omega
theorem lat_goes {S T : Sh} {ss : List ByteArray} (h : Goes S T ss) : ∀ x ∈ numd S.last ss, DataOk T x := by
  intro x hx
  obtain ⟨h1, h2⟩ := h
  obtain ⟨r1, r2, r3⟩ := numd_mem ss S.last h2 x hx
  exact ⟨by omega, r3⟩
theorem lat_pushed {S : Sh} {n : Nat} {r : Bool} {s : ByteArray} (ho : S.ok n) (hs : s.size ≤ 30000) : Lat S (S.pushed r s) := by
  have h := (goes_pushed (r := r) ho hs).1
  refine ⟨by omega, ?_, ?_⟩
  · rw [all_pushed]
    split
    · exact ⟨[s], rfl⟩
    · exact ⟨[], by simp⟩
  · unfold Sh.pushed
    split <;> rfl
theorem lat_acked {S : Sh} {n k : Nat} (ho : S.ok n) : Lat S (S.acked k) := by
  have h := (goes_acked (k := k) ho).1
  refine ⟨by omega, ⟨[], by rw [all_acked]; simp⟩, ?_⟩
  unfold Sh.acked
  split <;> rfl
theorem lat_tick (S : Sh) : Lat S S.tick := ⟨Nat.le_refl _, ⟨[], by simp [Sh.tick]⟩, rfl⟩
theorem data_tick {S : Sh} : ∀ x ∈ numd S.g S.tickI, DataOk S.tick x := by
  intro x hx
  unfold Sh.tickI at hx
  split at hx
  · obtain ⟨r1, r2, r3⟩ := numd_mem S.out S.g (by rw [S.out_len]; rfl) x hx
    rw [S.out_len] at r2
    exact ⟨r2, r3⟩
  · cases hx

/-- What was pushed at one end, what has come at the other. -/
structure Link (S : Sh) (D : Dk) (got : List ByteArray) : Prop where
  ord : Ord (S.all.take S.last) (D.next - 1) D
  g : S.g + 1 ≤ D.next
  got : got = S.all.take (D.next - 1)
  win : D.win = S.win
theorem Link.le {S : Sh} {D : Dk} {got : List ByteArray} {n : Nat} (h : Link S D got) (ho : S.ok n) : D.next ≤ S.last + 1 := by
  have h1 := h.ord.le
  have h2 := Sh.last_all ho
  rw [List.length_take, Nat.min_eq_left h2] at h1
  omega
theorem Link.later {S T : Sh} {D : Dk} {got : List ByteArray} {n m : Nat} (h : Link S D got) (ho : S.ok n) (hT : T.ok m) (l : Lat S T) (hg : T.g + 1 ≤ D.next) : Link T D got := by
  have hle := h.le ho
  have ha := Sh.last_all ho
  have hb := Sh.last_all hT
  have hl := l.last
  obtain ⟨r, hr⟩ := l.all
  refine ⟨⟨h.ord.next, by rw [List.length_take, Nat.min_eq_left hb]; omega, fun x hx => ?_⟩, hg, ?_, h.win.trans l.win.symm⟩
  · obtain ⟨p1, p2⟩ := piece_take.1 (h.ord.held x hx)
    exact piece_take.2 ⟨by omega, by rw [hr]; exact piece_more p2⟩
  · rw [h.got, hr, List.take_append_of_le_length (by omega)]
theorem Link.push {S : Sh} {D : Dk} {got : List ByteArray} {n : Nat} {r : Bool} {s : ByteArray} (h : Link S D got) (ho : S.ok n) (hs : s.size ≤ 30000) : Link (S.pushed r s) D got :=
  h.later ho (ho.pushed (r := r) hs) (lat_pushed ho hs) (by
    have := h.g
    unfold Sh.pushed
    split
    · exact this
    · exact this)
theorem Link.ack {S : Sh} {D : Dk} {got : List ByteArray} {n k : Nat} (h : Link S D got) (ho : S.ok n) (hk : AckOk D k) : Link (S.acked k) D got :=
  h.later ho (ho.acked (k := k)) (lat_acked ho) (by
    have := h.g
    unfold Sh.acked
    split
    · exact hk
    · exact this)
theorem Link.tick {S : Sh} {D : Dk} {got : List ByteArray} {n : Nat} (h : Link S D got) (ho : S.ok n) : Link S.tick D got :=
  h.later ho ho.tick (lat_tick S) h.g
theorem Link.hear {S : Sh} {D : Dk} {got : List ByteArray} {n c : Nat} {x : Nat × ByteArray} (h : Link S D got) (ho : S.ok n) (hD : D.ok c) (hx : DataOk S x) :
    Link S (D.came x.1 x.2) (got ++ D.gave x.1 x.2) ∧ D.next ≤ (D.came x.1 x.2).next ∧ (D.came x.1 x.2).ok (S.last + c + 1) := by
  obtain ⟨k, s⟩ := x
  obtain ⟨hk, hp⟩ := piece_take.2 hx
  obtain ⟨i, rfl⟩ : ∃ i, k = i + 1 := ⟨k - 1, by simp only at hk; omega⟩
  obtain ⟨r1, r2⟩ := h.ord.came hp
  simp only [Nat.add_sub_cancel] at r1 r2
  have hn := r1.next
  have hle := r1.le
  have ha := Sh.last_all ho
  have h1 := hD.next.1
  rw [List.length_take, Nat.min_eq_left ha] at hle
  have e : (D.came (i + 1) s).next - 1 = D.next - 1 + (D.gave (i + 1) s).length := by omega
  have hg := h.g
  refine ⟨⟨by rw [e]; exact r1, by simp only; omega, ?_, ?_⟩, by simp only; omega, (hD.came s).more (by omega)⟩
  · simp only
    rw [e]
    have e1 : S.all.take (D.next - 1) = (S.all.take S.last).take (D.next - 1) := by rw [List.take_take, Nat.min_eq_left (by omega)]
    have e2 : S.all.take (D.next - 1 + (D.gave (i + 1) s).length) = (S.all.take S.last).take (D.next - 1 + (D.gave (i + 1) s).length) := by rw [List.take_take, Nat.min_eq_left (by omega)]
    rw [h.got, e2, List.take_add, ← r2, ← e1]
  · simp only
    rw [Dk.came_win]
    exact h.win

/-- It has come: it went on, or is held. -/
def Came (D : Dk) (k : Nat) : Prop := k < D.next ∨ (D.held.lookup k).isSome = true
theorem goN_keep {β : Type} {k : Nat} : ∀ (l : List (Nat × β)) (n : Nat), (l.lookup k).isSome = true → k < n + (goN n l).1.length ∨ ((goN n l).2.lookup k).isSome = true
  | [], _, h => by simp at h
  | x :: t, n, h => by
    rw [goN]
    split
    · rename_i e
      rw [lookup_cons'] at h
      dsimp only
      rw [List.length_cons]
      split at h
      · exact Or.inl (by omega)
      · rcases goN_keep t (n + 1) h with r | r
        · exact Or.inl (by omega)
        · exact Or.inr r
    · exact Or.inr h
theorem Came.mono {D : Dk} {j n : Nat} {s : ByteArray} (h : Came D j) : Came (D.came n s) j := by
  unfold Dk.came
  split
  · rename_i hm
    obtain ⟨m1, m2, m3⟩ := Dk.may_is.1 hm
    rcases h with h | h
    · exact Or.inl (by show j < D.next + _; omega)
    · have h2 : ((ins n s D.held).lookup j).isSome = true := by
        by_cases e : j = n
        · subst e
          rw [lookup_same s _ m3]
          rfl
        · rw [lookup_other s e]
          exact h
      exact goN_keep _ _ h2
  · exact h
theorem came_hear {D : Dk} {n : Nat} {s : ByteArray} (hw : n < D.next + D.win) : Came (D.came n s) n := by
  unfold Dk.came
  split
  · rename_i hm
    obtain ⟨m1, m2, m3⟩ := Dk.may_is.1 hm
    exact goN_keep _ _ (by rw [lookup_same s _ m3]; rfl)
  · rename_i hm
    by_cases h1 : n < D.next
    · exact Or.inl h1
    · refine Or.inr ?_
      cases e : D.held.lookup n with
      | some b => rfl
      | none => exact absurd (Dk.may_is.2 ⟨by omega, hw, e⟩) hm
/-- What is out is within the other end's window. -/
theorem Link.within {S : Sh} {D : Dk} {got : List ByteArray} {x : Nat × ByteArray} (h : Link S D got) (hx : DataOk S x) : x.1 < D.next + D.win := by
  have h1 := h.g
  have h2 := h.win
  have h3 := S.n_le
  have h4 : S.last = S.g + S.n := rfl
  have := hx.1
  omega
/-- All that is out has come: all that went out went on. -/
theorem Link.full {S : Sh} {D : Dk} {got : List ByteArray} {n c : Nat} (h : Link S D got) (ho : S.ok n) (hD : D.ok c) (ha : ∀ k, S.g < k → k ≤ S.last → Came D k) : D.next = S.last + 1 := by
  have h1 := h.le ho
  have h2 := h.g
  rcases Nat.lt_or_ge S.last D.next with h3 | h3
  · omega
  · exfalso
    rcases ha D.next (by omega) h3 with r | r
    · omega
    · rw [lookup_none.2 (fun x hx => by have := (hD.up.2 x hx).1; omega)] at r
      cases r

end Go.Proofs.Ytfbojcaedcimcaa

/-
  A while of good net brings all: how many rounds are wanted. Without its memory.
-/
namespace Go.Proofs.Ytfbojcaedcimcaa

/-- All that is out is on its way. -/
def Fresh (S : Sh) (there : List (Nat × ByteArray)) : Prop := ∀ k, S.g < k → k ≤ S.last → ∃ s, (k, s) ∈ there
/-- All that went out since is on its way. -/
def Sent (S1 S : Sh) (there : List (Nat × ByteArray)) : Prop := ∀ k, S1.last < k → k ≤ S.last → ∃ s, (k, s) ∈ there
/-- So many rounds are enough. -/
def Need (S : Sh) (there : List (Nat × ByteArray)) (m : Nat) : Prop :=
  S.g = S.all.length ∨ (Fresh S there ∧ S.waits.length + 1 ≤ m) ∨ S.pa.l + S.waits.length + 1 ≤ m

theorem sent_ack {S1 S : Sh} {there : List (Nat × ByteArray)} {n k : Nat} (h : Sent S1 S there) (ho : S.ok n) : Sent S1 (S.acked k) (there ++ numd S.last (S.ackI k)) := by
  intro j h1 h2
  have hg := (goes_acked (k := k) ho).1
  rcases Nat.lt_or_ge S.last j with h3 | h3
  · obtain ⟨s, hs⟩ := numd_has (S.ackI k) S.last j h3 (by omega)
    exact ⟨s, List.mem_append_right _ hs⟩
  · obtain ⟨s, hs⟩ := h j h1 h3
    exact ⟨s, List.mem_append_left _ hs⟩
theorem g_acked {S : Sh} {k : Nat} : S.g ≤ (S.acked k).g ∧ (k ≤ S.last → k ≤ (S.acked k).g) := by
  unfold Sh.acked
  split
  · rename_i h
    obtain ⟨h1, h2⟩ := Sh.acks_spec.1 h
    exact ⟨by show S.g ≤ k; omega, fun _ => Nat.le_refl k⟩
  · rename_i h
    refine ⟨Nat.le_refl _, fun hk => ?_⟩
    rcases Nat.lt_or_ge S.g k with h1 | h1
    · exact absurd (Sh.acks_spec.2 ⟨h1, hk⟩) h
    · exact h1
theorem l_acked {S : Sh} {k L : Nat} (hf : S.pa.f = 1) (hL : 1 ≤ L) (hl : S.pa.l ≤ L) : (S.acked k).pa.l ≤ L ∧ (S.acked k).pa.f = 1 := by
  unfold Sh.acked
  split
  · unfold Sh.ack
    dsimp only
    split
    · exact ⟨Nat.zero_le _, hf⟩
    · have e : S.pa.stop.start = ⟨S.pa.f, S.pa.m, S.pa.f, S.pa.f, S.pa.r⟩ := by
        unfold Pa.start Pa.stop
        rw [if_pos rfl]
      rw [e]
      exact ⟨by show S.pa.f ≤ L; omega, hf⟩
  · exact ⟨hl, hf⟩

/-- One good round. -/
theorem need_round {S S3 : Sh} {D : Dk} {got : List ByteArray} {there there2 : List (Nat × ByteArray)} {n n3 c m : Nat} (h : Need S there (m + 1)) (ho : S.ok n) (ho3 : S3.ok n3)
    (hL : Link S.tick D got) (hD : D.ok c) (hc : ∀ x ∈ there ++ numd S.g S.tickI, Came D x.1)
    (hall : S3.all = S.all) (hwin : S3.win = S.win) (hs : Sent S S3 there2) (hlast : S.last ≤ S3.last) (hg : S.g ≤ S3.g) (hg2 : S3.g + 1 ≤ D.next)
    (hack : there ++ numd S.g S.tickI ≠ [] → D.next ≤ S3.g + 1) (hl : 1 ≤ S.tick.pa.l → S3.pa.l ≤ S.tick.pa.l) : Need S3 there2 m := by
  have hg3 := ho3.g
  rw [hall] at hg3
  have hog := ho.g
  have hw := ho.win
  have e1 : S.last = S.g + min S.win (S.all.length - S.g) := rfl
  have e3 : S3.last = S3.g + min S3.win (S3.all.length - S3.g) := rfl
  have s1 := Sh.sum ho
  have s3 := Sh.sum ho3
  rw [hall] at e3 s3
  rw [hwin] at e3
  unfold Need
  rw [hall]
  by_cases hz : S.g = S.all.length
  · exact Or.inl (by omega)
  by_cases hz3 : S3.g = S.all.length
  · exact Or.inl hz3
  refine Or.inr ?_
  have hwt : S.waits.length ≤ m := by
    rcases h with h | ⟨_, h⟩ | h
    · exact absurd h hz
    · omega
    · omega
  by_cases fr : ∀ k, S.g < k → k ≤ S.last → ∃ s, (k, s) ∈ there ++ numd S.g S.tickI
  · obtain ⟨s0, hs0⟩ := fr S.last (by omega) (Nat.le_refl _)
    have hne : there ++ numd S.g S.tickI ≠ [] := fun e => by rw [e] at hs0; cases hs0
    have hfull : D.next = S.last + 1 := hL.full ho.tick hD (fun k h1 h2 => by
      obtain ⟨s, hs'⟩ := fr k h1 h2
      exact hc _ hs')
    have := hack hne
    refine Or.inl ⟨fun k h1 h2 => hs k (by omega) h2, by omega⟩
  · refine Or.inr ?_
    have hl3 : S.pa.l + S.waits.length + 1 ≤ m + 1 := by
      rcases h with h | ⟨h, _⟩ | h
      · exact absurd h hz
      · exact absurd (fun k h1 h2 => by
          obtain ⟨s, hs'⟩ := h k h1 h2
          exact ⟨s, List.mem_append_left _ hs'⟩) fr
      · exact h
    have hr : S.pa.rings = false := by
      cases e : S.pa.rings
      · rfl
      · exact absurd (fun k h1 h2 => by
          have e2 : S.tickI = S.out := by unfold Sh.tickI; rw [e]; rfl
          obtain ⟨s, hs'⟩ := numd_has S.out S.g k h1 (by rw [S.out_len]; exact h2)
          exact ⟨s, List.mem_append_right _ (by rw [e2]; exact hs')⟩) fr
    have hp := ho.runs.2 (by omega)
    have hp1 : S.pa.l ≠ 1 := of_decide_eq_false (show decide (S.pa.l = 1) = false from hr)
    have ht : S.tick.pa.l = S.pa.l - 1 := by
      show S.pa.tick.l = _
      unfold Pa.tick
      rw [if_neg (by omega), if_neg hp1]
    have := hl (by omega)
    omega
/-- All is done: all that was pushed has come, nothing is held. -/
theorem need_done {S : Sh} {D : Dk} {got : List ByteArray} {n c : Nat} {there : List (Nat × ByteArray)} (h : Need S there 0) (ho : S.ok n) (hL : Link S D got) (hD : D.ok c) :
    got = S.all ∧ S.out = [] ∧ S.waits = [] ∧ D.held = [] := by
  have hz : S.g = S.all.length := by
    rcases h with h | ⟨_, h⟩ | h
    · exact h
    · omega
    · omega
  have h1 := hL.le ho
  have h2 := hL.g
  have h3 := Sh.last_all ho
  have h4 := Sh.sum ho
  have h5 := S.out_len
  have h6 := S.n_le
  have h7 : S.last = S.g + S.n := rfl
  refine ⟨by rw [hL.got, List.take_of_length_le (by omega)], List.eq_nil_of_length_eq_zero (by omega), List.eq_nil_of_length_eq_zero (by omega), ?_⟩
  cases e : D.held with
  | nil => rfl
  | cons x t =>
    have hx : x ∈ D.held := by rw [e]; exact List.mem_cons_self ..
    have a := (hD.up.2 x hx).1
    have b := (piece_take.1 (hL.ord.held x hx)).1
    omega
theorem need_more {S : Sh} {there : List (Nat × ByteArray)} {m k : Nat} (h : Need S there m) (hk : m ≤ k) : Need S there k := by
  rcases h with h | ⟨h1, h2⟩ | h
  · exact Or.inl h
  · exact Or.inr (Or.inl ⟨h1, by omega⟩)
  · exact Or.inr (Or.inr (by omega))
/-- At the outset. -/
theorem need_first {S : Sh} {there : List (Nat × ByteArray)} {n : Nat} (ho : S.ok n) : Need S there (S.pa.m + S.all.length + 1) := by
  have h1 := ho.pa.l
  have h2 := ho.pa.m.1
  have h3 := Sh.sum ho
  exact Or.inr (Or.inr (by omega))

end Go.Proofs.Ytfbojcaedcimcaa

/-
  Both ends send at once, over a net that loses nothing: how many rounds are wanted. Without its memory.
-/
namespace Go.Proofs.Ytfbojcaedcimcaa

/-- All beyond t that is out is on its way there; t is known to have come, or word of it is on its way back. -/
structure Goal (S : Sh) (sx : List (Nat × ByteArray)) (fr : List Nat) (t : Nat) : Prop where
  le : t ≤ S.last
  back : t ≤ S.g ∨ t ∈ fr
  data : ∀ k, t < k → k ≤ S.last → ∃ s, (k, s) ∈ sx
/-- So many rounds are enough. -/
def NeedB (S : Sh) (sx : List (Nat × ByteArray)) (fr : List Nat) (m : Nat) : Prop :=
  S.g = S.all.length ∨ ∃ t, Goal S sx fr t ∧ 2 * S.all.length + 1 ≤ m + t + S.last

theorem both_round {S S3 : Sh} {D : Dk} {got : List ByteArray} {sx to2 : List (Nat × ByteArray)} {fr fr2 : List Nat} {n n3 c m : Nat} (h : NeedB S sx fr (m + 1)) (ho : S.ok n) (ho3 : S3.ok n3)
    (hL : Link S D got) (hD : D.ok c) (hc : ∀ x ∈ sx, Came D x.1) (hfr : ∀ k ∈ fr, AckOk D k)
    (hall : S3.all = S.all) (hwin : S3.win = S.win) (hs : Sent S S3 to2) (hlast : S.last ≤ S3.last) (hg : S.g ≤ S3.g) (hg1 : ∀ k ∈ fr, k ≤ S.last → k ≤ S3.g)
    (hack : sx ≠ [] → D.next - 1 ∈ fr2) : NeedB S3 to2 fr2 m := by
  have hg3 := ho3.g
  rw [hall] at hg3
  have hog := ho.g
  have hw := ho.win
  have e3 : S3.last = S3.g + min S3.win (S3.all.length - S3.g) := rfl
  rw [hall, hwin] at e3
  unfold NeedB
  rw [hall]
  by_cases hz : S.g = S.all.length
  · exact Or.inl (by omega)
  by_cases hz3 : S3.g = S.all.length
  · exact Or.inl hz3
  rcases h with h | ⟨t, ⟨p1, p2, p3⟩, h⟩
  · exact absurd h hz
  have hfull : D.next = S.last + 1 := hL.full ho hD (fun k h1 h2 => by
    rcases Nat.lt_or_ge t k with h3 | h3
    · obtain ⟨s, hs'⟩ := p3 k h3 h2
      exact hc _ hs'
    · rcases p2 with p2 | p2
      · omega
      · have := hfr t p2
        unfold AckOk at this
        exact Or.inl (by omega))
  have ht : t ≤ S3.g := by
    rcases p2 with p2 | p2
    · omega
    · exact hg1 t p2 p1
  refine Or.inr ⟨S.last, ⟨hlast, ?_, hs⟩, by omega⟩
  cases sx with
  | nil =>
    refine Or.inl ?_
    rcases Nat.lt_or_ge t S.last with h3 | h3
    · obtain ⟨s, hs'⟩ := p3 S.last h3 (Nat.le_refl _)
      cases hs'
    · omega
  | cons x l =>
    refine Or.inr ?_
    have := hack (by simp)
    rwa [hfull, Nat.add_sub_cancel] at this
/-- Nothing is on its way: all is done. -/
theorem both_none {S : Sh} {n m : Nat} (h : NeedB S [] [] m) (ho : S.ok n) : S.g = S.all.length := by
  rcases h with h | ⟨t, ⟨p1, p2, p3⟩, h⟩
  · exact h
  · have h1 := ho.g
    have h2 := ho.win
    have e : S.last = S.g + min S.win (S.all.length - S.g) := rfl
    rcases p2 with p2 | p2
    · rcases Nat.lt_or_ge t S.last with h3 | h3
      · obtain ⟨s, hs'⟩ := p3 S.last h3 (Nat.le_refl _)
        cases hs'
      · omega
    · cases p2
theorem both_zero {S : Sh} {sx : List (Nat × ByteArray)} {fr : List Nat} {n : Nat} (h : NeedB S sx fr 0) (ho : S.ok n) : S.g = S.all.length := by
  rcases h with h | ⟨t, ⟨p1, _, _⟩, h⟩
  · exact h
  · have := Sh.last_all ho
    omega
theorem needB_more {S : Sh} {sx : List (Nat × ByteArray)} {fr : List Nat} {m k : Nat} (h : NeedB S sx fr m) (hk : m ≤ k) : NeedB S sx fr k := by
  rcases h with h | ⟨t, p, h⟩
  · exact Or.inl h
  · exact Or.inr ⟨t, p, by omega⟩
/-- At the outset: all that is out is on its way. -/
theorem needB_first {S : Sh} {sx : List (Nat × ByteArray)} {fr : List Nat} (h : Fresh S sx) : NeedB S sx fr (2 * S.all.length + 1) :=
  Or.inr ⟨S.g, ⟨Nat.le_add_right _ _, Or.inl (Nat.le_refl _), h⟩, by omega⟩
/-- All is done. -/
theorem both_done {S : Sh} {D : Dk} {got : List ByteArray} {n c : Nat} (h : S.g = S.all.length) (ho : S.ok n) (hL : Link S D got) (hD : D.ok c) :
    got = S.all ∧ S.out = [] ∧ S.waits = [] ∧ D.held = [] := need_done (there := []) (Or.inl h) ho hL hD

end Go.Proofs.Ytfbojcaedcimcaa
