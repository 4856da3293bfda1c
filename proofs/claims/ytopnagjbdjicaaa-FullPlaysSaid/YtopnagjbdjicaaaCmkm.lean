import Derived.Test.YtopnagjbdjicaaaCmatm
import Derived.Test.YtopnagjbdjicaaaMae
import Derived.Test.YtopnagjbdjicaaaMac
import Derived.Deep.RegionLaw

/-
  A square out of rows, and back.
-/
namespace Go.Proofs.Ytopnagjbdjicaaa
open Go.RowKit

theorem info_v {i? : Option TypeInfo} {z : Value} {s b : Nat} (h : i?.map (fun i => (i.zero, i.size, i.bytes)) = some (some z, s, b)) : ∃ i, i? = some i ∧ i.zero = some z ∧ i.size = s ∧ i.bytes = b := by
  cases i? with
  | none => simp at h
  | some i => simp at h; exact ⟨i, rfl, h.1, h.2.1, h.2.2⟩
theorem Try.infoV : (Try.prog.info? 42).map (fun i => (i.zero, i.size, i.bytes)) = some (some (.slice none 0 0), 1, 24) := by kernel_rfl
theorem Try.infoR : (Try.prog.info? 41).map (fun i => (i.zero, i.size, i.bytes)) = some (some (.slice none 0 0), 1, 24) := by kernel_rfl
theorem ones_r (L : List Rd) : ∀ u ∈ L.map rdV, u.oneCell' = true := by
  intro u hu
  obtain ⟨x, _, rfl⟩ := List.mem_map.1 hu
  rfl

/-- A struct of a number and a slice. -/
def mkC (z : Int) (v : Value) : Nat → Value := fun o => if o = 0 then .int .i64 z else v
/-- A slice of the same rows, in memory of its own. -/
def SameR (W : World) (L : List Rd) (a : Option Addr) (cap : Nat) (w' : World) : Prop := SlV w' a cap (L.map rdV) ∧ Below W.heap.size W w' ∧ ∀ ad, a = some ad → W.heap.size ≤ ad.block

def RowsRl (W : World) (L : List Rd) (s i : Value) (wr : World) : Prop :=
  ∃ k : Nat, k ≤ L.length ∧ i = .int .i64 (k : Nat) ∧ wr.ownsRow W.heap.size 41 1 s k ((L.take k).map rdV) ∧ Below W.heap.size W wr

theorem row_more {L : List Rd} {k : Nat} (h : k < L.length) : (L.take k).map rdV ++ [rdV L[k]] = (L.take (k + 1)).map rdV := by
  rw [List.take_succ_eq_append_getElem h, List.map_append]; rfl
theorem lit_cell (w : World) (v : Value) (t : TypeId) : ∀ ad, (some ⟨w.heap.size, 0, none⟩ : Option Addr) = some ad → ∀ j u, [v][j]? = some u → (w.alloc (.cells #[v] t)).cell? (ad.add j) = some u := by
  intro ad e
  cases e
  exact World.news_of_block (cs := #[v]) (fr := (0, 0)) (heap_alloc_new w (.cells #[v] t))

set_option maxRecDepth 20000 in
set_option maxHeartbeats 4000000 in
theorem rows_any {W : World} {a : Option Addr} {cap n : Nat} {L : List Rd} (z : Int) (h : SlV W a cap (L.map rdV)) (hn : L.length = n) (hl : n ≤ 100000) :
    Calls Try.prog 25 #[.agg #[.int .i64 z, .slice a n cap]] W fun e w' => ∃ a' cap', e = .returned (.slice a' n cap') ∧ SameR W L a' cap' w' := by
  obtain ⟨i0, hi0, hz0, hz1, hz2⟩ := info_v Try.infoR
  have S := Lib.hid h
  have HN := Lib.hid hn
  have S0 := Lib.hid (show RowsRl W L (.slice none 0 0) (.int .i64 0) (W.alloc (.cells #[.int .i64 z, .slice a n cap] 37)) from ⟨0, Nat.zero_le _, rfl, by rw [List.take_zero]; exact World.ownsRow_nil _ _ _ _, below_alloc (Below.refl _ _) _⟩)
  have C := Lib.hid ((Cel.new W [.int .i64 z, .slice a n cap] 37).conv (V2 := mkC z (.slice a n cap)) (fun o ho => by
    rcases (show o = 0 ∨ o = 1 by simp at ho; omega) with rfl | rfl <;> rfl))
  clear h hn
  go_enter Try.func25, Try.ntmps25
  go_wp2_with fail
  go_loopw [3, 4] (fun s i wr => RowsRl W L s i wr ∧ s.ownBlock ≠ some W.heap.size ∧ Cel 2 wr W.heap.size (mkC z (.slice a n cap))) (fun _ i _ => n - (intOf i).toNat)
  case atStart => exact ⟨S0.out, by simp [Value.ownBlock], C.out⟩
  case round =>
    obtain ⟨⟨k, hk, rfl, hO, hb⟩, hne, hc⟩ := hrel
    rw [HN.out] at hk
    have c1 : wr.cell? ⟨W.heap.size, 1, none⟩ = some (.slice a n cap) := hc.c 1 (by decide)
    by_cases hlt : k < n
    · have kl : k < L.length := by rw [HN.out]; exact hlt
      obtain ⟨b, off, rfl, hbW, hcx⟩ := (S.out.below hb).at k kl
      have hsz := S.out.fit
      rw [List.length_map, HN.out] at hsz
      have j0 : (0 : Int) ≤ (k : Int) := by omega
      have j1 : (k : Int) < (n : Int) := by omega
      have hk8 : k ≤ 100000 := by omega
      obtain ⟨sa, sc, rfl⟩ := own_form hO
      have FIN := Lib.hid (fun s' w' (h : w'.ownsRow W.heap.size 41 1 s' (k + 1) ((L.take k).map rdV ++ [rdV L[k]])) (hb : Below W.heap.size W w') => show RowsRl W L s' (.int .i64 ((k + 1 : Nat) : Int)) w' from
        ⟨k + 1, by rw [HN.out]; omega, rfl, by rw [← row_more kl]; exact h, hb⟩)
      have OA := Lib.hid (fun o => own_below hO ((Below.refl _ wr).alloc (Nat.le_refl _) o))
      have BA := Lib.hid (fun o => hb.alloc hb.size o)
      have CA := Lib.hid hc
      have HNE := Lib.hid hne
      have SZ := Lib.hid hb.size
      clear hO hb hc hne
      generalize L[k] = x at *
      obtain ⟨xa, xc, xl⟩ := x
      have hcx' : wr.cell? ⟨b, off + k, none⟩ = some (.slice xa xl.length xc) := hcx
      clear hcx
      generalize hxl : xl.length = x1 at *
      have XL := Lib.hid hxl
      clear hxl
      go_wp2_with (
        at_builtin
        refine wpList_append_at rfl (.tmp 12) (.tmp 18) 55 rfl W.heap.size 41 i0 (.slice none 0 0) 1 24 Try.underlying55 hi0 hz0 hz1 hz2 rfl (by decide) (.slice sa k sc) k ((L.take k).map rdV) rfl ?h1 _ _ _ [.slice xa x1 xc] rfl ?h2 ?h3 ?h4 ?h5 ?h6 ?h7 ?h8 ?_
        case h1 => exact OA.out _
        case h2 => rfl
        case h3 => intro e; cases e
        case h4 => exact lit_cell _ _ _
        case h5 => intro u hu; rw [List.mem_singleton.1 hu]; rfl
        case h6 => unfold maxLen; omega
        case h7 => omega
        case h8 => exact (BA.out (.cells #[.slice xa x1 xc] 41)).size
        intro v2 w2 hown2 hgr2 hat2
        have R := Lib.hid (FIN.out v2 w2 (by unfold rdV; rw [XL.out]; exact hown2) ((BA.out (.cells #[.slice xa x1 xc] 41)).grown hgr2 (BA.out (.cells #[.slice xa x1 xc] 41)).size (fun k h => ((OA.out (.cells #[.slice xa x1 xc] 41)).lt k h).1)))
        have NE2 := Lib.hid (show v2.ownBlock ≠ some W.heap.size from fun e => (hat2 _ e).elim HNE.out (fun h => by have := CA.out.lt; simp at h; omega))
        have C2 := Lib.hid (((CA.out.below ((Below.refl _ wr).alloc (Nat.le_refl _) (.cells #[.slice xa x1 xc] 41))).keep (F := fun j => (Value.slice sa k sc).ownBlock = some j) ((Keep.refl _ _).grown hgr2 (fun j h => Or.inl h)) HNE.out))
        clear hown2 hgr2 hat2)
      go_roundw
      case rel => exact ⟨R.out, NE2.out, C2.out⟩
      case measure => simp only [intOf]; omega
    · obtain rfl : k = n := by omega
      have dk : decide ((k : Int) < (k : Int)) = false := decide_eq_false (by omega)
      rw [List.take_of_length_le (by rw [HN.out]; exact Nat.le_refl _)] at hO
      obtain ⟨-, a3, c3, e3, hS⟩ := own_slv hO
      rw [List.length_map, HN.out] at e3
      subst e3
      have R := Lib.hid (show SameR W L a3 c3 wr from ⟨hS, hb, fun ad e => by subst e; exact (hO.lt ad.block rfl).1⟩)
      clear hO hb hS hc hne
      go_wp2_with fail
      go_ret
      exact ⟨_, _, rfl, R.out⟩

end Go.Proofs.Ytopnagjbdjicaaa
