import Derived.Test.YtbmpeadoicjpnaaMaf
import Derived.Test.YtbmpeadoicjpnaaWregm

/-
  trim.copied: a log alike in new memory.
-/
namespace Go.Proofs.Ytbmpeadoicjpnaa
open Go.RowKit Go.Sort

theorem Try.infoT : (Try.prog.info? 26).map (fun i => (i.zero, i.size, i.bytes)) = some (some (.agg #[.int .i64 0, .int .u64 0, .int .u64 0]), 3, 24) := by kernel_rfl

theorem OwnLg.put {T : TypeId} {B : Nat} {w : World} {s : Value} {l : List Le} (h : OwnLg T B w s l) {r : Nat} (hr : r < B) (i : Nat) (v : Value) : OwnLg T B (w.setCell ⟨r, i, none⟩ v) s l :=
  h.keep ((Keep.refl (fun k => k = r) w).put i v) (fun k h1 _ => by omega)
/-- A log of one's own, given. -/
def GPost (W : World) (l : List Le) (n : Nat) (e : Ending) (w' : World) : Prop :=
  ∃ a c, e = .returned (gV a n c) ∧ OwnLg 26 W.heap.size w' (.slice a n c) l ∧ l.length = n ∧ Below W.heap.size W w'
/-- Laid into a block that lies below the row. -/
theorem put_at {W w : World} {r n B : Nat} {V : Nat → Value} {l : List Le} {a : Option Addr} {c : Nat} (C : Cel 1 w r V) (hb : Below W.heap.size W w) (hr : W.heap.size ≤ r) (hB : r < B) (O : OwnLg 26 B w (.slice a n c) l) :
    (w.cell? ⟨r, 0, none⟩ = some (V 0) ∧ w.frozen? ⟨r, 0, none⟩ = false) ∧ (w.setCell ⟨r, 0, none⟩ (.slice a n c)).cell? ⟨r, 0, none⟩ = some (.slice a n c) ∧ OwnLg 26 B (w.setCell ⟨r, 0, none⟩ (.slice a n c)) (.slice a n c) l ∧ Below W.heap.size W (w.setCell ⟨r, 0, none⟩ (.slice a n c)) := by
  have C3 := C.put 0 (.slice a n c)
  exact ⟨⟨C.c 0 (by decide), C.fz 0⟩, C3.c 0 (by decide), O.put hB 0 _, hb.setCell (by exact hr) _⟩
/-- Laid into the result's block. -/
theorem put_res {W U w : World} {r n : Nat} {V : Nat → Value} {l : List Le} {a : Option Addr} {c : Nat} (C : Cel 1 U r V) (hWU : Below W.heap.size W U) (hr : W.heap.size ≤ r) (hb : Below U.heap.size U w) (O : OwnLg 26 U.heap.size w (.slice a n c) l) :
    (w.cell? ⟨r, 0, none⟩ = some (V 0) ∧ w.frozen? ⟨r, 0, none⟩ = false) ∧ (w.setCell ⟨r, 0, none⟩ (.slice a n c)).cell? ⟨r, 0, none⟩ = some (.slice a n c) ∧ OwnLg 26 U.heap.size (w.setCell ⟨r, 0, none⟩ (.slice a n c)) (.slice a n c) l ∧ Below W.heap.size W (w.setCell ⟨r, 0, none⟩ (.slice a n c)) :=
  put_at (C.below hb) (hWU.trans (hb.mono hWU.size)) hr C.lt O

set_option maxRecDepth 20000 in
set_option maxHeartbeats 2000000 in
theorem tclone_any {A : Nat → Prop} {W : World} {a : Option Addr} {cap n : Nat} {l : List Le} (h : LgAt A W a cap n l) (hl : n ≤ 1000000) :
    Calls Try.prog 54 #[.slice a n cap] W fun e w' => ∃ a' cap', e = .returned (.slice a' n cap') ∧ OwnLg 26 W.heap.size w' (.slice a' n cap') l ∧ Below W.heap.size W w' := by
  obtain ⟨i0, hi0, hz0, hz1, hz2⟩ := info_x Try.infoT
  have hn := h.len
  cases a with
  | none =>
    obtain ⟨rfl, rfl⟩ := h.row.empty rfl
    obtain rfl : l = [] := List.length_eq_zero_iff.1 hn
    clear h hl hn
    have he : ∀ w : World, (binOp .eql 27 (.slice none 0 0) (.slice none 0 0)).run Try.prog w = .ok (.bool true) w := fun _ => rfl
    go_enter Try.func54, Try.ntmps54
    go_wp2_with fail
    go_ret
    exact ⟨none, 0, rfl, OwnLg.nil _, Below.refl _ _⟩
  | some ad =>
    have S := Lib.hid h
    clear h
    have X := Lib.hid hn
    clear hn
    have he : ∀ w : World, (binOp .eql 27 (.slice (some ad) n cap) (.slice none 0 0)).run Try.prog w = .ok (.bool false) w := fun _ => rfl
    have O := Lib.hid (World.ownsRow_lit (base := W.heap.size) (e := 26) (size := 3) W #[] 0 (Nat.le_refl _) (by unfold maxLen; omega) rfl)
    have NW := Lib.hid (fun (w : World) (hb : Below W.heap.size W w) => (S.out.row.below hb).news)
    go_enter Try.func54, Try.ntmps54
    go_wp2_with (at_builtin; refine wpList_append_at rfl (.tmp 5) (.tmp 6) 27 rfl W.heap.size 26 i0 (.agg #[.int .i64 0, .int .u64 0, .int .u64 0]) 3 24 Try.underlying27 hi0 hz0 hz1 hz2 rfl (by decide) _ _ _ rfl O.out _ _ _ (lgC l) rfl (by rw [lgC_len, X.out]) (fun e => by cases e) (NW.out _ ((Below.refl _ _).alloc (Nat.le_refl _) _)) (lgC_one l) (by unfold maxLen; omega) (by omega) (by simp) ?_
                 intro v2 w2 hown2 hgr2 hat2
                 have hb2 : Below W.heap.size W w2 := ((Below.refl _ _).alloc (Nat.le_refl _) _).grown hgr2 (by simp) (fun k h => (O.out.lt k h).1)
                 try rw [Nat.zero_add, List.nil_append] at hown2
                 obtain ⟨a2, cap2, rfl⟩ := own_form hown2
                 have R := Lib.hid (And.intro (show OwnLg 26 W.heap.size w2 (.slice a2 n cap2) l from ⟨by rw [X.out]; exact hown2, S.out.ok⟩) hb2)
                 clear hown2 hgr2 hb2 hat2)
    go_ret
    exact ⟨a2, cap2, rfl, R.out.1, R.out.2⟩

set_option maxRecDepth 20000 in
set_option maxHeartbeats 2000000 in
theorem copied_any {A : Nat → Prop} {W : World} {a : Option Addr} {cap n : Nat} {l : List Le} (h : LgAt A W a cap n l) (hl : n ≤ 1000000) :
    Calls Try.prog 31 #[gV a n cap] W (GPost W l n) := by
  obtain ⟨U, hU⟩ : ∃ U, U = (W.alloc (.cells #[.slice a n cap] 29)).alloc (.cells #[.slice none 0 0] 29) := ⟨_, rfl⟩
  have C1 : Cel 1 U W.heap.size (gcE a n cap) := by rw [hU]; exact (boxG W a n cap _).below (boxb _ _)
  have C2 : Cel 1 U (W.heap.size + 1) (gcE none 0 0) := by
    have := boxG (W.alloc (.cells #[.slice a n cap] 29)) none 0 0 29
    rw [← hU, show (W.alloc (.cells #[.slice a n cap] 29)).heap.size = W.heap.size + 1 by simp] at this
    exact this
  have HB := Lib.hid (show Below W.heap.size W U from by rw [hU]; exact below_alloc (boxb W _) _)
  have c0 : U.cell? ⟨W.heap.size, 0, none⟩ = some (.slice a n cap) := C1.c 0 (by decide)
  have CC := Lib.hid (tclone_any (h.below HB.out) hl)
  have HN := Lib.hid h.len
  have X2 := Lib.hid C2
  have HU := Lib.hid hU.symm
  clear hU C1 C2 h
  go_enter Try.func31, Try.ntmps31
  go_upto_region 1 with fail
  rw [HU.out]
  go_wp2_with fail
  refine CC.out.mono ?_
  rintro e w1 ⟨a2, c2, rfl, hO, hb⟩
  obtain ⟨⟨x1, x2⟩, x3, x4, x5⟩ := put_res X2.out HB.out (Nat.le_succ _) hb hO
  have R := Lib.hid (And.intro x4 x5)
  clear x4 x5 hO hb
  go_wp2_with fail
  refine bodyPost_ret (v := gV a2 n c2) (by simp [results, Try.results31, go_sem, x3]) rfl ?_
  exact ⟨a2, c2, rfl, R.out.1.mono HB.out.size, HN.out, R.out.2⟩

end Go.Proofs.Ytbmpeadoicjpnaa
