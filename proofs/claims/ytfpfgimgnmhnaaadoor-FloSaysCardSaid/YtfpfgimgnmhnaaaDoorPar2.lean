/-
  Reading a number again, whatever is handed in.
-/
import Derived.Test.YtfpfgimgnmhnaaaDoorPars
namespace Go.Proofs.YtfpfgimgnmhnaaaDoor
open Go.RowKit

/-- The variable holds some error. -/
def Syn (w : World) : Prop := ∃ te pe, w.cell? ⟨1, 0, none⟩ = some (.iface te pe)
open Lib in
theorem Syn.alloc {w : World} (h : Syn w) (o : Obj) : Syn (w.alloc o) := let ⟨te, pe, h⟩ := h; ⟨te, pe, Lib.cell?_alloc_some o h⟩
theorem Syn.below {w w' : World} (h : Syn w) (hb : Below w.heap.size w w') : Syn w' := let ⟨te, pe, h⟩ := h; ⟨te, pe, cell_later hb h⟩

theorem pin_yes (s : ByteArray) (u : Nat) (w : World) (hs : s.size = 16) (hv : valP s.data.toList 0 = some u) :
    Calls Tryd.prog 41 #[.string s, .int .i64 16, .int .i64 64] w fun e w' => e = .returned (.tuple #[.int .u64 u, .nilIface]) ∧ Below w.heap.size w w' :=
  (pin_any s w hs).mono fun e w' ⟨h, hb⟩ => ⟨by unfold Puts at h; rw [hv] at h; exact h, hb⟩
theorem pin_no (s : ByteArray) (w : World) (hs : s.size = 16) (hv : valP s.data.toList 0 = none) :
    Calls Tryd.prog 41 #[.string s, .int .i64 16, .int .i64 64] w fun e w' => e = .returned (.tuple #[.int .u64 0, .iface 69 (.int .i64 2)]) ∧ Below w.heap.size w w' :=
  (pin_any s w hs).mono fun e w' ⟨h, hb⟩ => ⟨by unfold Puts at h; rw [hv] at h; exact h, hb⟩

set_option maxHeartbeats 1000000 in
theorem pu_yes (s : ByteArray) (u : Nat) (w : World) (hs : s.size = 16) (hv : valP s.data.toList 0 = some u) :
    Calls Tryd.prog 34 #[.string s, .int .i64 16, .int .i64 64] w fun e w' => e = .returned (.tuple #[.int .u64 u, .nilIface]) ∧ Below w.heap.size w w' := by
  have C := Lib.hid (fun wx => pin_yes s u wx hs hv)
  clear hs hv
  go_enter Tryd.func34, Tryd.ntmps34
  go_wp2_with fail
  refine (C.out _).mono ?_
  rintro e w' ⟨rfl, hb⟩
  go_wp2
  go_ret2
  exact ⟨rfl, hb⟩

set_option maxHeartbeats 1000000 in
theorem pu_no (s : ByteArray) (w : World) (hs : s.size = 16) (hy : Syn w) (hv : valP s.data.toList 0 = none) :
    Calls Tryd.prog 34 #[.string s, .int .i64 16, .int .i64 64] w fun e w' => (∃ t v, e = .returned (.tuple #[.int .u64 0, .iface t v])) ∧ Below w.heap.size w w' := by
  have C := Lib.hid (fun wx => pin_no s wx hs hv)
  have hs1 : s.size ≤ 281474976710656 := by omega
  clear hs hv
  go_enter Tryd.func34, Tryd.ntmps34
  go_wp2_with fail
  refine (C.out _).mono ?_
  rintro e w' ⟨rfl, hb⟩
  obtain ⟨te, pe, hc⟩ := hy.below hb
  go_wp2_with fail
  refine (Tryd.strconv_toError_syntax _ s 16 64 _ _ hs1 hc (Or.inr ⟨te, pe, rfl⟩)).mono ?_
  rintro e w2 ⟨N, rfl, h1, h2, hb2⟩
  go_wp2
  go_ret2
  exact ⟨⟨_, _, rfl⟩, hb.trans (hb2.mono hb.size)⟩


/-- What a text is read as. -/
def nanS : List UInt8 := [110, 97, 110]
def infS : List UInt8 := [105, 110, 102]
def ninS : List UInt8 := [45, 105, 110, 102]
def parO (l : List UInt8) : Option Nat :=
  if l = nanS then some nanW else if l = infS then some 9218868437227405312 else if l = ninS then some 18442240474082181120 else
  if l.length = 16 then match valP l 0 with
    | none => none
    | some u => if showL u = l then some u else none
  else none

theorem valP_lt : ∀ (l : List UInt8) (n u : Nat), valP l n = some u → u < (n + 1) * 16 ^ l.length
  | [], n, u, h => by cases h; simp
  | c :: r, n, u, h => by
    unfold valP at h
    cases hd : digP c.toNat with
    | none => rw [hd] at h; cases h
    | some d =>
      rw [hd] at h
      have h1 := digP_lt _ _ hd
      have h2 := valP_lt r _ _ h
      have : (16 * n + d + 1) * 16 ^ r.length ≤ (16 * (n + 1)) * 16 ^ r.length := Nat.mul_le_mul_right _ (by omega)
      rw [List.length_cons, Nat.pow_succ]
      calc u < (16 * n + d + 1) * 16 ^ r.length := h2
        _ ≤ (16 * (n + 1)) * 16 ^ r.length := this
        _ = (n + 1) * (16 ^ r.length * 16) := by rw [Nat.mul_comm 16 (n + 1), Nat.mul_assoc, Nat.mul_comm 16]

theorem valP_16 (l : List UInt8) (u : Nat) (hl : l.length = 16) (h : valP l 0 = some u) : u < 18446744073709551616 := by
  have := valP_lt l 0 u h
  rw [hl] at this
  exact this

theorem size_len (s : ByteArray) : s.toList.length = s.size := by rw [ByteArray.toList_eq]; rfl

def Pout (o : Option Nat) (e : Ending) : Prop := e = .returned (.tuple #[.float .f64 (o.getD 0), .bool o.isSome])

set_option maxHeartbeats 4000000 in
theorem parse_any (s : ByteArray) (w : World) (ht : Tab w) (hy : Syn w) :
    Calls Tryd.prog 15 #[.string s] w fun e w' => Pout (parO s.toList) e ∧ Below w.heap.size w w' := by
  have hl := size_len s
  cases h1 : (s.toList == nanS)
  · cases h2 : (s.toList == infS)
    · cases h3 : (s.toList == ninS)
      · have n1 : s.toList ≠ nanS := by simpa using h1
        have n2 : s.toList ≠ infS := by simpa using h2
        have n3 : s.toList ≠ ninS := by simpa using h3
        have hp : parO s.toList = if s.toList.length = 16 then match valP s.toList 0 with | none => none | some u => if showL u = s.toList then some u else none else none := by
          unfold parO; rw [if_neg n1, if_neg n2, if_neg n3]
        by_cases h16 : s.size = 16
        · rw [if_pos (by omega)] at hp
          unfold nanS at h1
          unfold infS at h2
          unfold ninS at h3
          cases hv : valP s.toList 0 with
          | none =>
            rw [hv] at hp
            have C := Lib.hid (fun wx hy => pu_no s wx h16 hy (by rw [← ByteArray.toList_eq]; exact hv))
            have HP := Lib.hid hp
            have t1 : ((s.size : Int) != 16) = false := by rw [h16]; rfl
            clear hp hl h16 hv n1 n2 n3
            go_enter Tryd.func15, Tryd.ntmps15
            go_wp2_with fail
            refine (C.out _ hy).mono ?_
            rintro e w' ⟨⟨t, v, rfl⟩, hb⟩
            go_wp2
            go_ret2
            exact ⟨by unfold Pout; rw [HP.out]; rfl, hb⟩
          | some u =>
            rw [hv] at hp
            simp only at hp
            have hu := valP_16 _ u (by omega) hv
            have C := Lib.hid (fun wx => pu_yes s u wx h16 (by rw [← ByteArray.toList_eq]; exact hv))
            have t1 : ((s.size : Int) != 16) = false := by rw [h16]; rfl
            have hn := f64frombits_run
            cases hs : (showL u == s.toList)
            · rw [if_neg (by simpa using hs)] at hp
              have HP := Lib.hid hp
              clear hp hl h16 hv n1 n2 n3
              go_enter Tryd.func15, Tryd.ntmps15
              go_wp2_with fail
              refine (C.out _).mono ?_
              rintro e w' ⟨rfl, hb⟩
              go_wp2_with fail
              refine (show_any u _ (ht.below hb) hu).mono ?_
              rintro e w2 ⟨rfl, hb2⟩
              go_wp2
              go_ret2
              exact ⟨by unfold Pout; rw [HP.out]; rfl, hb.trans (hb2.mono hb.size)⟩
            · rw [if_pos (by simpa using hs)] at hp
              have HP := Lib.hid hp
              clear hp hl h16 hv n1 n2 n3
              go_enter Tryd.func15, Tryd.ntmps15
              go_wp2_with fail
              refine (C.out _).mono ?_
              rintro e w' ⟨rfl, hb⟩
              go_wp2_with fail
              refine (show_any u _ (ht.below hb) hu).mono ?_
              rintro e w2 ⟨rfl, hb2⟩
              go_wp2
              go_ret2
              exact ⟨by unfold Pout; rw [HP.out]; rfl, hb.trans (hb2.mono hb.size)⟩
        · rw [if_neg (by omega)] at hp
          have HP := Lib.hid hp
          have t1 : ((s.size : Int) != 16) = true := by simp; omega
          unfold nanS at h1
          unfold infS at h2
          unfold ninS at h3
          clear hp hl h16 n1 n2 n3
          go_enter Tryd.func15, Tryd.ntmps15
          go_wp2
          go_ret2
          exact ⟨by unfold Pout; rw [HP.out]; rfl, Below.refl _ _⟩
      · have HP : Hid (parO s.toList = some 18442240474082181120) := by
          have e : s.toList = ninS := by simpa using h3
          unfold Hid parO; rw [e]; rfl
        unfold nanS at h1
        unfold infS at h2
        unfold ninS at h3
        clear hl
        go_enter Tryd.func15, Tryd.ntmps15
        go_wp2_with (go_at_call 12; refine (inf_neg _).mono ?_; rintro e w' ⟨rfl, rfl⟩)
        go_ret2
        exact ⟨by unfold Pout; rw [HP.out]; rfl, Below.refl _ _⟩
    · have HP : Hid (parO s.toList = some 9218868437227405312) := by
        have e : s.toList = infS := by simpa using h2
        unfold Hid parO; rw [e]; rfl
      unfold nanS at h1
      unfold infS at h2
      clear hl
      go_enter Tryd.func15, Tryd.ntmps15
      go_wp2_with (go_at_call 12; refine (inf_pos _).mono ?_; rintro e w' ⟨rfl, rfl⟩)
      go_ret2
      exact ⟨by unfold Pout; rw [HP.out]; rfl, Below.refl _ _⟩
  · have HP : Hid (parO s.toList = some nanW) := by
      have e : s.toList = nanS := by simpa using h1
      unfold Hid parO; rw [e]; rfl
    unfold nanS at h1
    clear hl
    go_enter Tryd.func15, Tryd.ntmps15
    go_wp2_with (go_at_call 11; refine (nan_any _).mono ?_; rintro e w' ⟨rfl, rfl⟩)
    go_ret2
    exact ⟨by unfold Pout; rw [HP.out]; rfl, Below.refl _ _⟩

/-- Each of the sixteen letters is read again. -/
theorem digP_hex (n : Nat) (h : n < 16) : digP (hexU n).toNat = some n := by
  rcases n with _|_|_|_|_|_|_|_|_|_|_|_|_|_|_|_|n <;> first | omega | decide +kernel

theorem valP_hex (b : Nat) : ∀ k, k ≤ 16 → valP ((hex16 b).drop (16 - k)) (b / 16 ^ k) = some b := by
  intro k
  induction k with
  | zero => intro _; rw [List.drop_of_length_le (by simp [hex16, hexK])]; simp [valP]
  | succ k ih =>
    intro hk
    have hlen : 16 - (k + 1) < (hex16 b).length := by simp [hex16, hexK]; omega
    rw [valP_step _ _ _ hlen]
    have hg : (hex16 b)[16 - (k + 1)] = hexU (b / 16 ^ k % 16) := by
      simp only [hex16, hexK, List.getElem_map, List.getElem_range]
      rw [show 15 - (16 - (k + 1)) = k by omega]
    rw [hg, digP_hex _ (by omega)]
    simp only
    rw [show 16 - (k + 1) + 1 = 16 - k by omega, pow16_succ, show 16 * (b / 16 ^ k / 16) + b / 16 ^ k % 16 = b / 16 ^ k by omega]
    exact ih (by omega)

theorem par_show (b : Nat) (hb : b < 18446744073709551616) : parO (showL b) = some (if nanB b then nanW else b) := by
  unfold showL
  cases h1 : nanB b
  · simp only [Bool.false_eq_true, if_false]
    cases h2 : infNB b
    · cases h3 : infPB b
      · simp only [Bool.false_eq_true, if_false]
        have hl : (hex16 b).length = 16 := by simp [hex16, hexK]
        have hne : ∀ t : List UInt8, t.length ≠ 16 → hex16 b ≠ t := fun t ht e => ht (by rw [← e]; exact hl)
        unfold parO
        rw [if_neg (hne _ (by decide)), if_neg (hne _ (by decide)), if_neg (hne _ (by decide)), if_pos hl]
        have hv := valP_hex b 16 (by omega)
        rw [show b / 16 ^ 16 = 0 from Nat.div_eq_of_lt hb, Nat.sub_self, List.drop_zero] at hv
        rw [hv]
        have hs : showL b = hex16 b := by unfold showL; simp [h1, h2, h3]
        simp [hs]
      · simp only [Bool.false_eq_true, if_false, if_true]
        unfold infPB at h3
        have := of_decide_eq_true h3
        subst this
        decide
    · simp only [if_true]
      unfold infNB at h2
      have := of_decide_eq_true h2
      subst this
      decide
  · simp only [if_true]
    decide

end Go.Proofs.YtfpfgimgnmhnaaaDoor
