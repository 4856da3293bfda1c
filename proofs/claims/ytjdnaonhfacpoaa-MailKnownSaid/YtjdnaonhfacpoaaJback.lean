/-
  What was written is read again; cut short it is none.
-/
import Derived.Test.YtjdnaonhfacpoaaJrd
import Derived.Test.YtjdnaonhfacpoaaPpt
namespace Go.Proofs.Ytjdnaonhfacpoaa
open Go.RowKit

/-- A message that was read again: no number is read as the one no number. -/
def backM (m : Msg) : Msg := ⟨m.frm, m.num, m.to, m.kind, m.vr, if tagged m.kind then backN m.val else 0, m.wri, m.tag, m.bod, m.stp⟩

theorem read_put {m : Msg} (ho : MsgOk m) (h : GoodP m) (r : List Nat) : readM (some (putL m ++ r)) = (backM m, some r) := by
  obtain ⟨⟨f1, f2⟩, t0, t1, _⟩ := h.1
  obtain ⟨_, n1, hp, s1⟩ := h
  have hn := ho.num
  have hk : 0 ≤ m.kind ∧ m.kind ≤ 3 := by rcases hp with x | x | x | x <;> omega
  have hv' := ho.val
  have hg' := ho.tag
  unfold PartP VarP NoP ReadP at hp
  clear ho
  obtain ⟨frm, num, to, kind, vr, val, wri, tag, bod, stp⟩ := m
  simp only at *
  obtain ⟨f, rfl⟩ := Int.eq_ofNat_of_zero_le f1
  obtain ⟨k, rfl⟩ := Int.eq_ofNat_of_zero_le hk.1
  have e1 : ∀ q, numR 15 (some (lebL f ++ q)) = (f, some q) := fun q => num_back (by omega) (by omega) q
  have e2 : ∀ q, numR 18446744073709551615 (some (lebL num ++ q)) = (num, some q) := fun q => num_back hn (by omega) q
  have e3 : ∀ q, numR 65535 (some (lebL to ++ q)) = (to, some q) := fun q => num_back (by omega) t1 q
  have e4 : ∀ q, numR 3 (some (lebL k ++ q)) = (k, some q) := fun q => num_back (by omega) (by omega) q
  have es : ∀ q, bytR 20000 (some (lebL stp.length ++ (stp ++ q))) = (stp, some q) := fun q => byt_back (by omega) (by omega) q
  have ht : ∀ (x : Nat) (hx : x < 18446744073709551616) (z : Int) (h1 : -1 ≤ z) (h2 : z ≤ 15) (g : Nat) (hg : g < 18446744073709551616) (q : List Nat), tagged (k : Int) = true →
      tagR k (some (beL (keyN x) ++ (lebL (z + 1).toNat ++ (lebL g ++ q)))) = (backN x, z, g, some q) := by
    intro x hx z h1 h2 g hg q ht
    unfold tagR
    rw [if_pos ht, flt_back hx]
    simp only
    rw [num_back (most := 16) (by omega) (by omega)]
    simp only
    rw [num_back (most := 18446744073709551615) hg (by omega)]
    simp only
    rw [show (((z + 1).toNat : Nat) : Int) - 1 = z by omega]
  rcases hp with ⟨hk0, hb, hv, hno⟩ | ⟨hk0, hva, hw, hg⟩ | ⟨hk0, hva, hno⟩ | ⟨hk0, hva, hrd⟩
  · obtain rfl : k = 0 := by omega
    subst hv
    obtain ⟨_, w0, g0⟩ := hno
    subst w0 g0
    have eb : ∀ q, bytR 256 (some (lebL bod.length ++ (bod ++ q))) = (bod, some q) := fun q => byt_back (by omega) (by omega) q
    have tg : tagged ((0 : Nat) : Int) = false := rfl
    have hm : ∀ q, midR 0 (some (lebL bod.length ++ (bod ++ q))) = (0, bod, some q) := fun q => by unfold midR; rw [if_pos rfl, eb]
    have htg : ∀ s, tagR 0 s = (0, 0, 0, s) := fun s => by unfold tagR; rw [tg]; rfl
    have hP : putL ⟨(f : Int), num, to, ((0 : Nat) : Int), 0, val, 0, 0, bod, stp⟩ ++ r = lebL f ++ (lebL num ++ (lebL to ++ (lebL 0 ++ (lebL bod.length ++ (bod ++ (lebL stp.length ++ (stp ++ r))))))) := by
      unfold putL
      simp [show tagged (0 : Int) = false from rfl]
    rw [hP]
    unfold readM backM
    simp only [e1, e2, e3, e4, hm, htg, es, tg]
    rfl
  · have tg : tagged (k : Int) = true := by rw [hk0]; rfl
    obtain rfl : k = 1 := by omega
    obtain ⟨⟨v1, v2⟩, hb⟩ := hva
    obtain ⟨v, rfl⟩ := Int.eq_ofNat_of_zero_le v1
    obtain rfl : bod = [] := List.length_eq_zero_iff.1 hb
    have ev : ∀ q, numR 15 (some (lebL v ++ q)) = (v, some q) := fun q => num_back (by omega) (by omega) q
    have hm : ∀ q, midR 1 (some (lebL v ++ q)) = (v, [], some q) := fun q => by unfold midR; rw [if_neg (by decide), ev]
    have htg := fun q => ht val hv' wri (by omega) (by omega) tag hg' q tg
    have hP : putL ⟨(f : Int), num, to, ((1 : Nat) : Int), (v : Int), val, wri, tag, [], stp⟩ ++ r = lebL f ++ (lebL num ++ (lebL to ++ (lebL 1 ++ (lebL v ++ (beL (keyN val) ++ (lebL (wri + 1).toNat ++ (lebL tag ++ (lebL stp.length ++ (stp ++ r))))))))) := by
      unfold putL
      simp [show tagged (1 : Int) = true from rfl]
    rw [hP]
    unfold readM backM
    simp only [e1, e2, e3, e4, hm, htg, es, tg, if_true]
  · have tg : tagged (k : Int) = false := by rw [hk0]; rfl
    obtain rfl : k = 2 := by omega
    obtain ⟨⟨v1, v2⟩, hb⟩ := hva
    obtain ⟨v, rfl⟩ := Int.eq_ofNat_of_zero_le v1
    obtain rfl : bod = [] := List.length_eq_zero_iff.1 hb
    obtain ⟨_, w0, g0⟩ := hno
    subst w0 g0
    have ev : ∀ q, numR 15 (some (lebL v ++ q)) = (v, some q) := fun q => num_back (by omega) (by omega) q
    have hm : ∀ q, midR 2 (some (lebL v ++ q)) = (v, [], some q) := fun q => by unfold midR; rw [if_neg (by decide), ev]
    have htg : ∀ s, tagR 2 s = (0, 0, 0, s) := fun s => by unfold tagR; rw [tg]; rfl
    have hP : putL ⟨(f : Int), num, to, ((2 : Nat) : Int), (v : Int), val, 0, 0, [], stp⟩ ++ r = lebL f ++ (lebL num ++ (lebL to ++ (lebL 2 ++ (lebL v ++ (lebL stp.length ++ (stp ++ r)))))) := by
      unfold putL
      simp [show tagged (2 : Int) = false from rfl]
    rw [hP]
    unfold readM backM
    simp only [e1, e2, e3, e4, hm, htg, es, tg, Bool.false_eq_true, if_false]
  · have tg : tagged (k : Int) = true := by rw [hk0]; rfl
    obtain rfl : k = 3 := by omega
    obtain ⟨⟨v1, v2⟩, hb⟩ := hva
    obtain ⟨v, rfl⟩ := Int.eq_ofNat_of_zero_le v1
    obtain rfl : bod = [] := List.length_eq_zero_iff.1 hb
    have ev : ∀ q, numR 15 (some (lebL v ++ q)) = (v, some q) := fun q => num_back (by omega) (by omega) q
    have hm : ∀ q, midR 3 (some (lebL v ++ q)) = (v, [], some q) := fun q => by unfold midR; rw [if_neg (by decide), ev]
    have htg := fun q => ht val hv' wri hrd.1.1 hrd.1.2 tag hg' q tg
    have hP : putL ⟨(f : Int), num, to, ((3 : Nat) : Int), (v : Int), val, wri, tag, [], stp⟩ ++ r = lebL f ++ (lebL num ++ (lebL to ++ (lebL 3 ++ (lebL v ++ (beL (keyN val) ++ (lebL (wri + 1).toNat ++ (lebL tag ++ (lebL stp.length ++ (stp ++ r))))))))) := by
      unfold putL
      simp [show tagged (3 : Int) = true from rfl]
    rw [hP]
    unfold readM backM
    simp only [e1, e2, e3, e4, hm, htg, es, tg, if_true]

theorem back_good {m : Msg} (h : GoodP m) : GoodP (backM m) := by
  obtain ⟨hw, hn, hp, hs⟩ := h
  refine ⟨hw, hn, ?_, hs⟩
  unfold backM
  rcases hp with ⟨k, a, b, c⟩ | ⟨k, a, b, c⟩ | ⟨k, a, c⟩ | ⟨k, a, c⟩
  · refine Or.inl ⟨k, a, b, ?_, c.2⟩
    show sameN (if tagged m.kind = true then backN m.val else 0) 0 = true
    rw [show tagged m.kind = false by rw [k]; rfl]; simp [sameN]
  · exact Or.inr (Or.inl ⟨k, a, b, c⟩)
  · refine Or.inr (Or.inr (Or.inl ⟨k, a, ?_, c.2⟩))
    show sameN (if tagged m.kind = true then backN m.val else 0) 0 = true
    rw [show tagged m.kind = false by rw [k]; rfl]; simp [sameN]
  · exact Or.inr (Or.inr (Or.inr ⟨k, a, c⟩))
theorem back_ok {m : Msg} (h : MsgOk m) : MsgOk (backM m) := by
  refine ⟨h.num, h.to, ?_, h.tag⟩
  show (if tagged m.kind = true then backN m.val else 0) < _
  split
  · exact back_lt h.val
  · exact (by decide : (0 : Nat) < 18446744073709551616)
theorem back_same {m : Msg} (h : GoodP m) : sameN (backM m).val m.val = true := by
  show sameN (if tagged m.kind = true then backN m.val else 0) m.val = true
  obtain ⟨hw, hn, hp, hs⟩ := h
  unfold sameN
  rcases hp with ⟨k, a, b, c⟩ | ⟨k, a, b, c⟩ | ⟨k, a, c⟩ | ⟨k, a, c⟩
  · rw [show tagged m.kind = false by rw [k]; rfl]
    have := c.1
    unfold sameN at this
    simp only [decide_eq_true_eq] at this
    exact decide_eq_true (by simp [this])
  · rw [show tagged m.kind = true by rw [k]; rfl, if_pos rfl, back_key]; simp
  · rw [show tagged m.kind = false by rw [k]; rfl]
    have := c.1
    unfold sameN at this
    simp only [decide_eq_true_eq] at this
    exact decide_eq_true (by simp [this])
  · rw [show tagged m.kind = true by rw [k]; rfl, if_pos rfl, back_key]; simp

theorem got_put {m : Msg} (ho : MsgOk m) (h : GoodP m) : okM (putL m) = true ∧ gotM (putL m) = backM m := by
  have e : readM (some (putL m)) = (backM m, some []) := by simpa using read_put ho h []
  have h1 : okM (putL m) = true := by
    unfold okM
    rw [e, show goodM (backM m) = true from decide_eq_true (back_good h)]
    rfl
  refine ⟨h1, ?_⟩
  unfold gotM
  rw [h1, e]
  rfl

/-! More behind it changes nothing. -/
theorem decN_more' : ∀ (b : List Nat) (x : Nat × Nat) (q : List Nat), decN b = some x → decN (b ++ q) = some x
  | [], _, _, h => by simp [decN] at h
  | c :: r, x, q, h => by
    rw [List.cons_append]
    unfold decN at h ⊢
    by_cases h1 : c < 128
    · rw [if_pos h1] at h ⊢; exact h
    · rw [if_neg h1] at h ⊢
      cases hd : decN r with
      | none => rw [hd] at h; simp at h
      | some y => rw [decN_more' r y q hd]; rw [hd] at h; exact h
theorem getN_more {b : List Nat} (h : (getN b).2 ≠ 0) (q : List Nat) : getN (b ++ q) = getN b := by
  unfold getN at h ⊢
  cases hd : decN b with
  | none => rw [hd] at h; simp at h
  | some y => rw [decN_more' b y q hd]
theorem num_more {most : Nat} {s : Option (List Nat)} {R : List Nat} (h : (numR most s).2 = some R) : ∃ B, s = some B ∧ ∀ q, numR most (some (B ++ q)) = ((numR most s).1, some (R ++ q)) := by
  cases s with
  | none => simp [numR] at h
  | some B =>
    refine ⟨B, rfl, fun q => ?_⟩
    have e : ∀ b : List Nat, numR most (some b) = if (getN b).2 = 0 ∨ most < (getN b).1 then (0, none) else ((getN b).1, some (b.drop (getN b).2)) := fun _ => rfl
    by_cases hc : (getN B).2 = 0 ∨ most < (getN B).1
    · rw [e B, if_pos hc] at h; simp at h
    · have hg := getN_more (fun z => hc (Or.inl z)) q
      rw [e B, if_neg hc] at h ⊢
      rw [e (B ++ q), hg, if_neg hc]
      simp only [Option.some.injEq] at h
      rw [List.drop_append_of_le_length (getN_size B), h]
theorem flt_more {s : Option (List Nat)} {R : List Nat} (h : (fltR s).2 = some R) : ∃ B, s = some B ∧ ∀ q, fltR (some (B ++ q)) = ((fltR s).1, some (R ++ q)) := by
  cases s with
  | none => simp [fltR] at h
  | some B =>
    refine ⟨B, rfl, fun q => ?_⟩
    have e : ∀ b : List Nat, fltR (some b) = if b.length < 8 ∨ ofB (beN b) = false then (0, none) else (ofF (beN b), some (b.drop 8)) := fun _ => rfl
    by_cases hc : B.length < 8 ∨ ofB (beN B) = false
    · rw [e B, if_pos hc] at h; simp at h
    · have h8 : 8 ≤ B.length := Nat.le_of_not_lt (fun z => hc (Or.inl z))
      have hb : beN (B ++ q) = beN B := by unfold beN; rw [List.take_append_of_le_length h8]
      rw [e B, if_neg hc] at h ⊢
      rw [e (B ++ q), hb, if_neg (fun z => z.elim (fun z => by rw [List.length_append] at z; omega) (fun z => hc (Or.inr z)))]
      simp only [Option.some.injEq] at h
      rw [List.drop_append_of_le_length h8, h]
theorem byt_more {most : Int} {s : Option (List Nat)} {R : List Nat} (h : (bytR most s).2 = some R) : ∃ B, s = some B ∧ ∀ q, bytR most (some (B ++ q)) = ((bytR most s).1, some (R ++ q)) := by
  unfold bytR at h
  split at h
  · simp at h
  · rename_i hc
    cases hn : (numR (max most 0).toNat s).2 with
    | none => rw [hn] at h; simp at h
    | some C =>
      obtain ⟨B, rfl, hq⟩ := num_more hn
      refine ⟨B, rfl, fun q => ?_⟩
      rw [hn] at h hc
      simp only [Option.map_some, Option.some.injEq, Option.getD_some] at h hc
      unfold bytR
      rw [hq q, hn]
      simp only [Option.getD_some, Option.map_some]
      rw [if_neg (by rw [List.length_append]; omega), if_neg hc, List.take_append_of_le_length (by omega), List.drop_append_of_le_length (by omega), h]
theorem mid_more {k : Nat} {s : Option (List Nat)} {R : List Nat} (h : (midR k s).2.2 = some R) : ∃ B, s = some B ∧ ∀ q, midR k (some (B ++ q)) = ((midR k s).1, (midR k s).2.1, some (R ++ q)) := by
  unfold midR at h ⊢
  by_cases hk : k = 0
  · rw [if_pos hk] at h
    obtain ⟨B, rfl, hq⟩ := byt_more h
    exact ⟨B, rfl, fun q => by rw [if_pos hk, if_pos hk, hq q]⟩
  · rw [if_neg hk] at h
    obtain ⟨B, rfl, hq⟩ := num_more h
    exact ⟨B, rfl, fun q => by rw [if_neg hk, if_neg hk, hq q]⟩
theorem tag_more {k : Nat} {s : Option (List Nat)} {R : List Nat} (h : (tagR k s).2.2.2 = some R) : ∃ B, s = some B ∧ ∀ q, tagR k (some (B ++ q)) = ((tagR k s).1, (tagR k s).2.1, (tagR k s).2.2.1, some (R ++ q)) := by
  unfold tagR at h ⊢
  by_cases hk : tagged (k : Int) = true
  · rw [if_pos hk] at h
    obtain ⟨C, hC, hq3⟩ := num_more h
    obtain ⟨D, hD, hq2⟩ := num_more hC
    obtain ⟨B, rfl, hq1⟩ := flt_more hD
    exact ⟨B, rfl, fun q => by rw [if_pos hk, if_pos hk, hq1 q]; simp only; rw [hq2 q]; simp only; rw [hq3 q]⟩
  · rw [if_neg hk] at h
    exact ⟨R, h, fun q => by rw [if_neg hk, if_neg hk]⟩
theorem read_more {s : Option (List Nat)} {R : List Nat} (h : (readM s).2 = some R) : ∃ B, s = some B ∧ ∀ q, readM (some (B ++ q)) = ((readM s).1, some (R ++ q)) := by
  unfold readM at h
  simp only at h
  obtain ⟨B6, h6, q6⟩ := byt_more h
  obtain ⟨B5, h5, q5⟩ := tag_more h6
  obtain ⟨B4, h4, q4⟩ := mid_more h5
  obtain ⟨B3, h3, q3⟩ := num_more h4
  obtain ⟨B2, h2, q2⟩ := num_more h3
  obtain ⟨B1, h1, q1⟩ := num_more h2
  obtain ⟨B0, rfl, q0⟩ := num_more h1
  refine ⟨B0, rfl, fun q => ?_⟩
  unfold readM
  simp only [q0 q, q1 q, q2 q, q3 q, q4 q, q5 q, q6 q]
theorem cut_none {m : Msg} (ho : MsgOk m) (h : GoodP m) {k : Nat} (hk : k < (putL m).length) : okM ((putL m).take k) = false := by
  cases he : okM ((putL m).take k) with
  | false => rfl
  | true =>
    unfold okM at he
    rw [Bool.and_eq_true] at he
    have hr : (readM (some ((putL m).take k))).2 = some [] := by
      cases hs : (readM (some ((putL m).take k))).2 with
      | none => rw [hs] at he; simp [endR] at he
      | some C => rw [hs] at he; simp [endR] at he; rw [he.1]
    obtain ⟨B, hB, hq⟩ := read_more hr
    cases hB
    have e := hq ((putL m).drop k)
    rw [List.take_append_drop] at e
    have e2 : readM (some (putL m)) = (backM m, some []) := by simpa using read_put ho h []
    rw [e2] at e
    have : (putL m).drop k = [] := by simpa using (congrArg Prod.snd e).symm
    rw [List.drop_eq_nil_iff] at this
    omega

end Go.Proofs.Ytjdnaonhfacpoaa
