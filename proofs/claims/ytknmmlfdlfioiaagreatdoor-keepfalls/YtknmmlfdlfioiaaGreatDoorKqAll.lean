/- Refs kept in a place: what is laid ahead; the two names; what a place holds, in power or without. Clear and Lay at such a place, walked; a fall there, and power again. Lay at such a place, walked: the bytes come, are sure, get their name, and that is sure. What the refs' file says: read, walked. Open, walked: the refs that are kept, or the first ones. Save, walked: refs that may be are kept; what their file says then. The law's place, and awake: refs are there behind a loss of power. What the document's reader says of bytes: plain; that it says refs just where the program's does. The document's reader: what it keeps to, line by line; its memory. The document's reader of refs, walked at whatever bytes. Open at whatever stands in the refs' file: the law KeepSpoilt, walked. Whatever stands in the refs' file: it is refs, or found out: the law KeepSpoilt, walked whole. What stands beside a place: refs in a box, and their row, none of which is the place's own; the state of the law KeepBack. The law's cut of refs, walked. A row of refs, and a fall, as arguments, opened. -/
import Derived.Test.YtknmmlfdlfioiaaGreatDoorVcAll2
import Derived.Test.YtknmmlfdlfioiaaGreatDoorCbCheckw
import Derived.Test.YtknmmlfdlfioiaaGreatDoorRfDc
import Derived.Test.YtknmmlfdlfioiaaGreatDoorCbUnframew
import Derived.Test.YtknmmlfdlfioiaaGreatDoorCbRefuf
import Derived.Test.YtknmmlfdlfioiaaGreatDoorRfEa
import Derived.Test.YtknmmlfdlfioiaaGreatDoorRfDa
import Derived.Test.YtknmmlfdlfioiaaGreatDoorRfDb
import Derived.Test.YtknmmlfdlfioiaaGreatDoorRfzAll
import Derived.Test.YtknmmlfdlfioiaaGreatDoorCbRefu2
import Derived.Test.YtknmmlfdlfioiaaGreatDoorRfEb
namespace Go.Proofs.YtknmmlfdlfioiaaGreatDoor.Kq
open Vc Go.RowKit Go.Shelf
abbrev P0 : Value := .slice none 0 0
def refsP : ByteArray := ⟨#[114, 101, 102, 115]⟩
def newP : ByteArray := ⟨#[114, 101, 102, 115, 46, 110, 101, 119]⟩
theorem refs_path : pathL refsP.data.toList = true := by decide +kernel
theorem new_path : pathL newP.data.toList = true := by decide +kernel
theorem dir_refs : dirOf refsP = ⟨#[]⟩ := by decide +kernel
theorem dir_new : dirOf newP = ⟨#[]⟩ := by decide +kernel
theorem refs_size : refsP.size = 4 := rfl
theorem new_size : newP.size = 8 := rfl
theorem new_ne_refs : newP ≠ refsP := fun e => by have := congrArg ByteArray.size e; rw [refs_size, new_size] at this; cases this
/-- What is laid ahead of all. -/
structure Okn (n0 : Nat) (w : World) : Prop where
  kat : Cb.KAt w
  max : MaxAt w
  z0 : 1 < n0
  nw : n0 ≤ w.heap.size
theorem Okn.zm {n0 : Nat} {w : World} (h : Okn n0 w) : 1 < n0 := h.z0
theorem Okn.step {n0 : Nat} {w w' : World} (h : Okn n0 w) (hb : Below n0 w w') : Okn n0 w' := by
  refine ⟨fun i hi => ?_, h.max.base hb h.zm, h.z0, Nat.le_trans h.nw hb.size⟩
  have hz := h.z0
  have h1 := hb.cell (p := ⟨0, i, none⟩) (by show 0 < n0; omega)
  rw [h1]
  exact h.kat i hi
/-- Nothing but the refs' file is there, if it is; all is sure. -/
structure Whole (S : Fs) (o : Option ByteArray) : Prop where
  names : ∀ q, q ≠ refsP → S.now q = none
  file : (o = none ∧ S.now refsP = none) ∨ ∃ s x, o = some s ∧ x < S.came ∧ S.now refsP = some (some x) ∧ S.files x = ⟨s, s⟩
  sure : S.sure = S.now
  acts : S.acts = []
def sizeO : Option ByteArray → Nat
  | none => 0
  | some s => s.size
/-- A place that holds refs' bytes, or none. -/
structure At (n0 : Nat) (A : Nat → Prop) (b : Nat) (w : World) (fb room : Nat) (o : Option ByteArray) (U : Nat) : Prop where
  ok : Okn n0 w
  lo : ∀ g, A g → n0 ≤ g
  inA : ∀ g, A g → g < w.heap.size
  fbA : A fb
  rr : room ≤ 1000000000000000
  st : (o = none ∧ NewAt w fb room) ∨ ∃ S, Rep P0 n0 A b w fb S ∧ Whole S o ∧ S.room = room ∧ S.used ≤ (U : Int)
def AtTo (n0 : Nat) (A : Nat → Prop) (b : Nat) (w : World) (fb room : Nat) (o : Option ByteArray) (U : Nat) (w' : World) : Prop := ∃ A2 : Nat → Prop, (∀ g, A2 g → A g ∨ w.heap.size ≤ g) ∧ At n0 A2 b w' fb room o U ∧ Out A w w'
/-- One without power. -/
structure Off (n0 : Nat) (A : Nat → Prop) (b : Nat) (w : World) (fb room : Nat) (o : Option ByteArray) (U : Nat) : Prop where
  ok : Okn n0 w
  lo : ∀ g, A g → n0 ≤ g
  inA : ∀ g, A g → g < w.heap.size
  fbA : A fb
  rr : room ≤ 1000000000000000
  st : (o = none ∧ GoneAt w fb room) ∨ ∃ S, Dead P0 n0 A b w fb S ∧ Whole S o ∧ S.room = room ∧ S.used ≤ (U : Int)
def OffTo (n0 : Nat) (A : Nat → Prop) (b : Nat) (w : World) (fb room : Nat) (o : Option ByteArray) (U : Nat) (w' : World) : Prop := ∃ A2 : Nat → Prop, (∀ g, A2 g → A g ∨ w.heap.size ≤ g) ∧ Off n0 A2 b w' fb room o U ∧ Out A w w'
section
variable {n0 : Nat} {A A2 : Nat → Prop} {b b' : Nat} {w w' w1 : World} {fb room : Nat} {o : Option ByteArray} {U : Nat} {S : Fs}
theorem Rep.fbA (h : Rep P0 n0 A b w fb S) : A fb := by
  obtain ⟨b1, b2, b3, done, n1, n2, n3, D1, D2, D3, F, _, _, _, hS, _⟩ := h.laid
  rcases hS.a0 with h1 | h1
  · exact h1
  · have := block_lt hS.fs; omega
theorem At.keep (h : At n0 A b w fb room o U) (hk : Kept [] w w') : At n0 A b w' fb room o U := by
  refine ⟨h.ok.step ((Out.kept (A := A) hk).below h.ok.nw h.lo), h.lo, fun g hg => Nat.lt_of_lt_of_le (h.inA g hg) hk.size, h.fbA, h.rr, ?_⟩
  rcases h.st with ⟨e, h1⟩ | ⟨S, h1, r⟩
  · exact .inl ⟨e, hk.fs h1 (by simp)⟩
  · exact .inr ⟨S, h1.keep hk, r⟩
theorem At.below (h : At n0 A b w fb room o U) (hk : Below w.heap.size w w') : At n0 A b w' fb room o U := h.keep (Kept.of_below hk)
theorem AtTo.out (h : AtTo n0 A b w fb room o U w') (hA : ∀ g, A g → n0 ≤ g) (hn : n0 ≤ w.heap.size) : Below n0 w w' := by
  obtain ⟨A2, _, _, h3⟩ := h
  exact h3.below hn hA
theorem AtTo.kept (h : At n0 A b w fb room o U) (hk : Kept [] w w') : AtTo n0 A b w fb room o U w' := ⟨A, fun _ hg => .inl hg, h.keep hk, Out.kept hk⟩
theorem AtTo.step (hA : ∀ g, A2 g → A g ∨ w.heap.size ≤ g) (hO : Out A w w1) (k : AtTo n0 A2 b w1 fb room o U w') : AtTo n0 A b w fb room o U w' := by
  obtain ⟨A3, k1, k2, k3⟩ := k
  refine ⟨A3, fun g hg => ?_, k2, hO.trans k3 hA⟩
  rcases k1 g hg with e | e
  · exact hA g e
  · exact .inr (Nat.le_trans hO.size e)
/-- What Rep tells, told of a place. -/
theorem AtTo.of_rep (hok : Okn n0 w) (hlo : ∀ g, A g → n0 ≤ g) (hrr : room ≤ 1000000000000000) (hr : RepTo P0 n0 A b w fb S w') (hW : Whole S o) (hroom : S.room = room) (hu : S.used ≤ (U : Int)) : AtTo n0 A b w fb room o U w' := by
  obtain ⟨A3, k1, k2, k3⟩ := hr
  exact ⟨A3, k1, ⟨hok.step (k3.below hok.nw hlo), k2.lo, k2.inA, Rep.fbA k2, hrr, .inr ⟨S, k2, hW, hroom, hu⟩⟩, k3⟩
theorem toL_eq (a b : ByteArray) : (a.toList == b.toList) = decide (a = b) := by
  by_cases h : a = b
  · subst h; simp
  · rw [decide_eq_false h, beq_eq_false_iff_ne]
    intro e
    rw [ByteArray.toList_eq, ByteArray.toList_eq] at e
    exact h (ba_eq.2 e)
theorem isDir_root (n : Nm) : isDir n ⟨#[]⟩ = true := rfl
theorem doN_comes {n : Nm} {p : ByteArray} {f : Option Nat} {t : ByteArray} (h1 : n p = none) (h2 : isDir n (dirOf p) = true) : doN n ⟨0, p, t, f⟩ = fun q => if q = p then some f else n q := by
  unfold doN
  rw [if_pos rfl, if_pos ⟨h1, h2⟩]
theorem nf_root : S.nfE ⟨#[]⟩ = 0 := rfl
theorem whole_no (room : Nat) : Whole (noFs room) none := ⟨fun _ _ => rfl, .inl ⟨rfl, rfl⟩, rfl, rfl⟩
theorem whole_none (h : Whole S o) : S.now newP = none := h.names _ new_ne_refs
/-- The refs' file is no folder. -/
theorem whole_dir (h : Whole S o) : isDir S.now refsP = false := by
  unfold isDir
  rcases h.file with ⟨_, e⟩ | ⟨s, x, _, _, e, _⟩
  · rw [e]; rfl
  · rw [e]; rfl
/-- A fall where all is sure changes nothing. -/
theorem whole_fell {S' : Fs} {keep : Int} (h : Whole S o) (hf : Fell S S' keep) : Whole S' o ∧ S'.room = S.room ∧ S'.used ≤ (sizeO o : Int) := by
  obtain ⟨l', hl, _, h1, h2⟩ := hf.names
  rw [h.acts] at hl
  have e := List.sublist_nil.1 hl
  rw [e] at h1
  have hn : S'.now = S.now := by rw [h1]; exact h.sure
  have hF : (o = none ∧ S'.now refsP = none) ∨ ∃ s x, o = some s ∧ x < S'.came ∧ S'.now refsP = some (some x) ∧ S'.files x = ⟨s, s⟩ := by
    rcases h.file with ⟨e1, e2⟩ | ⟨s, x, e1, e2, e3, e4⟩
    · exact .inl ⟨e1, by rw [hn]; exact e2⟩
    · exact .inr ⟨s, x, e1, by rw [hf.came]; exact e2, by rw [hn]; exact e3, by rw [hf.same x (by rw [e4]), e4]⟩
  refine ⟨⟨fun q hq => by rw [hn]; exact h.names q hq, hF, h2, hf.acts⟩, hf.room, ?_⟩
  have := hf.used (sizeO o) [refsP] (fun q hq => by
    by_cases e : q = refsP
    · simp [e]
    · rw [hn] at hq
      exact absurd (h.names q e) hq) (fun q x hq => by
    have e : q = refsP := by
      by_cases e : q = refsP
      · exact e
      · rw [hn, h.names q e] at hq; cases hq
    subst e
    rcases hF with ⟨_, e2⟩ | ⟨s, y, e1, _, e3, e4⟩
    · rw [e2] at hq; cases hq
    · rw [e3] at hq
      injection hq with hq
      injection hq with hq
      subst hq
      rw [e4, e1]
      exact Nat.le_refl _)
  simpa using this
end
end Go.Proofs.YtknmmlfdlfioiaaGreatDoor.Kq
namespace Go.Proofs.YtknmmlfdlfioiaaGreatDoor.Kq
open Vc Go.RowKit Go.Shelf
section
variable {n0 : Nat} {A A2 : Nat → Prop} {b b' : Nat} {w w' w1 : World} {fb room : Nat} {o : Option ByteArray} {U : Nat} {S : Fs}
/-- No file is coming. -/
theorem at_remove (h : At n0 A b w fb room o U) (hb : b < 890) : Calls Tryz.prog 53 #[.pointer (some ⟨fb, 0, none⟩), .string newP] w fun e w' => e = .returned (.int .i64 2) ∧ Kept [] w w' := by
  rcases h.st with ⟨_, h1⟩ | ⟨S, h1, h2, _⟩
  · exact remove_fresh h1 h.ok.max newP (by rw [new_size]; decide) new_path
  · have e2 : S.rmE newP = 2 := by
      unfold Fs.rmE
      rw [if_pos new_path, whole_none h2]
      rfl
    refine (remove_rep h1 (by omega) (calm_nil _ _) newP (by rw [new_size]; decide)).mono fun e w' ⟨he, hr⟩ => ?_
    rw [e2] at he
    rcases hr with ⟨_, hk⟩ | ⟨h0, _⟩
    · exact ⟨he, hk⟩
    · rw [e2] at h0; cases h0
set_option maxHeartbeats 800000 in
set_option maxRecDepth 100000 in
theorem at_clear (h : At n0 A b w fb room o U) (hb : b < 890) : Calls Tryz.prog 31 #[.pointer (some ⟨fb, 0, none⟩), .string ⟨#[]⟩, .string newP] w fun e w' => e = .returned (.int .i64 0) ∧ Kept [] w w' := by
  have HR := hideIt (at_remove h hb)
  clear h
  generalize newP = np at HR ⊢
  go_enter Tryz.func31, Tryz.ntmps31
  go_wp2_with (first | (go_at_call 53; refine HR.out.mono ?_; rintro e w1 ⟨rfl, hk1⟩))
  go_ret
  exact ⟨rfl, hk1⟩
/-- What the refs' file says. -/
def readV : Option ByteArray → Value
  | none => .tuple #[.string ⟨#[]⟩, .int .i64 2]
  | some s => .tuple #[.string s, .int .i64 0]
theorem at_read (h : At n0 A b w fb room o U) : Calls Tryz.prog 32 #[.pointer (some ⟨fb, 0, none⟩), .string refsP] w fun e w' => e = .returned (readV o) ∧ Kept [] w w' := by
  rcases h.st with ⟨e0, h1⟩ | ⟨S, h1, h2, _⟩
  · rw [e0]
    exact read_fresh h1 h.ok.max refsP (by rw [refs_size]; decide) refs_path
  · refine (read_rep h1 (calm_nil _ _) refsP (by rw [refs_size]; decide)).mono fun e w' ⟨hk, hr⟩ => ⟨?_, hk⟩
    rcases h2.file with ⟨e1, e2⟩ | ⟨s, x, e1, e2, e3, e4⟩
    · have e5 : S.syE refsP = 2 := by
        unfold Fs.syE
        rw [if_pos refs_path, e2]
        rfl
      rcases hr with ⟨_, he⟩ | ⟨h0, _⟩
      · rw [he, e5, e1]; rfl
      · rw [e5] at h0; cases h0
    · have e5 : S.syE refsP = 0 := by
        unfold Fs.syE pvN
        rw [if_pos refs_path, e3]
        rfl
      rcases hr with ⟨h0, _⟩ | ⟨_, y, hy, _, he⟩
      · exact absurd e5 h0
      · rw [e3] at hy
        injection hy with hy
        injection hy with hy
        subst hy
        rw [he, e4, e1]
        rfl
theorem at_crash (h : At n0 A b w fb room o U) (hb : b < 890) (keep tn : Int) : Calls Tryz.prog 12 #[.pointer (some ⟨fb, 0, none⟩), .int .u64 keep, .int .i64 tn] w fun e w' => e = .returned (.tuple #[]) ∧ OffTo n0 A (b + 1) w fb room o (sizeO o) w' := by
  rcases h.st with ⟨e0, h1⟩ | ⟨S, h1, h2, h3, _⟩
  · refine (crash_fresh h1 keep tn).mono fun e w' ⟨he, hg, hk⟩ => ⟨he, A, fun _ hg => .inl hg, ?_, ?_⟩
    · have hO : Out A w w' := ⟨hk.os, hk.tape, hk.output, hk.size, fun g x hx hn => hk.fs hx (by simp; intro e; subst e; exact hn h.fbA)⟩
      exact ⟨h.ok.step (hO.below h.ok.nw h.lo), h.lo, fun g hg => Nat.lt_of_lt_of_le (h.inA g hg) hk.size, h.fbA, h.rr, .inl ⟨e0, hg⟩⟩
    · exact ⟨hk.os, hk.tape, hk.output, hk.size, fun g x hx hn => hk.fs hx (by simp; intro e; subst e; exact hn h.fbA)⟩
  · refine (crash_rep h1 (by omega) keep tn).mono fun e w' ⟨he, S', hf, A3, k1, k2, k3⟩ => ⟨he, A3, k1, ?_, k3⟩
    obtain ⟨f1, f2, f3⟩ := whole_fell h2 hf
    have hfb : A3 fb := by
      obtain ⟨nb, b2, b3, n, D, F, hn, hfs, hm1, hm2, hm3, d12, d13, d23, a1, a2, a3, a0, hL⟩ := k2.laid
      rcases a0 with e | e
      · exact e
      · have := block_lt hfs; omega
    exact ⟨h.ok.step (k3.below h.ok.nw h.lo), k2.lo, k2.inA, hfb, h.rr, .inr ⟨S', k2, f1, f2.trans h3, f3⟩⟩
theorem off_up (h : Off n0 A b w fb room o U) : Calls Tryz.prog 13 #[.pointer (some ⟨fb, 0, none⟩)] w fun e w' => e = .returned (.bool true) ∧ AtTo n0 A b w fb room o U w' := by
  rcases h.st with ⟨e0, h1⟩ | ⟨S, h1, h2, h3, h4⟩
  · refine (up_fresh h1).mono fun e w' ⟨he, hg, hk⟩ => ⟨he, A, fun _ hg => .inl hg, ?_, ?_⟩
    · have hO : Out A w w' := ⟨hk.os, hk.tape, hk.output, hk.size, fun g x hx hn => hk.fs hx (by simp; intro e; subst e; exact hn h.fbA)⟩
      exact ⟨h.ok.step (hO.below h.ok.nw h.lo), h.lo, fun g hg => Nat.lt_of_lt_of_le (h.inA g hg) hk.size, h.fbA, h.rr, .inl ⟨e0, hg⟩⟩
    · exact ⟨hk.os, hk.tape, hk.output, hk.size, fun g x hx hn => hk.fs hx (by simp; intro e; subst e; exact hn h.fbA)⟩
  · refine (up_rep h1).mono fun e w' ⟨he, hr⟩ => ⟨he, AtTo.of_rep h.ok h.lo h.rr hr h2 h3 h4⟩
/-- The bytes that are coming. -/
structure Coming (n0 : Nat) (A : Nat → Prop) (b : Nat) (w : World) (fb room : Nat) (S : Fs) : Prop where
  ok : Okn n0 w
  rep : Rep P0 n0 A b w fb S
  rr : room ≤ 1000000000000000
def ComTo (n0 : Nat) (A : Nat → Prop) (b : Nat) (w : World) (fb room : Nat) (S : Fs) (w' : World) : Prop := ∃ A2 : Nat → Prop, (∀ g, A2 g → A g ∨ w.heap.size ≤ g) ∧ Coming n0 A2 b w' fb room S ∧ Out A w w'
theorem ComTo.of_rep (hok : Okn n0 w) (hlo : ∀ g, A g → n0 ≤ g) (hrr : room ≤ 1000000000000000) (hr : RepTo P0 n0 A b w fb S w') : ComTo n0 A b w fb room S w' := by
  obtain ⟨A3, k1, k2, k3⟩ := hr
  exact ⟨A3, k1, ⟨hok.step (k3.below hok.nw hlo), k2, hrr⟩, k3⟩
theorem ComTo.step (hA : ∀ g, A2 g → A g ∨ w.heap.size ≤ g) (hO : Out A w w1) (k : ComTo n0 A2 b w1 fb room S w') : ComTo n0 A b w fb room S w' := by
  obtain ⟨A3, k1, k2, k3⟩ := k
  refine ⟨A3, fun g hg => ?_, k2, hO.trans k3 hA⟩
  rcases k1 g hg with e | e
  · exact hA g e
  · exact .inr (Nat.le_trans hO.size e)
theorem wr_new (h : Whole S o) : S.wrN newP = 0 := by
  unfold Fs.wrN
  rw [if_pos new_path, dir_new, if_pos (isDir_root _)]
  have : isDir S.now newP = false := by
    unfold isDir
    rw [whole_none h]
    rfl
  rw [this]
  rfl
/-- Its Write. -/
theorem at_write (h : At n0 A b w fb room o U) (hb : b < 890) (t : ByteArray) (ht : t.size ≤ 100000000) (hroom : U + t.size ≤ room) :
    ∃ S, Whole S o ∧ S.room = room ∧ S.used ≤ (U : Int) ∧ Calls Tryz.prog 40 #[.pointer (some ⟨fb, 0, none⟩), .string newP, .string t] w fun e w' => e = .returned (.int .i64 0) ∧ ∃ b', b' ≤ b + 1 ∧ ComTo n0 A b' w fb room (S.fresh newP t) w' := by
  rcases h.st with ⟨e0, h1⟩ | ⟨S, h1, h2, h3, h4⟩
  · refine ⟨noFs room, by rw [e0]; exact whole_no room, rfl, by show (0 : Int) ≤ U; omega, ?_⟩
    refine (write_fresh h1 h.ok.max h.rr h.ok.zm (h.lo _ h.fbA) newP t (by rw [new_size]; decide) ht new_path (by rw [dir_new]) (by omega)).mono fun e w' ⟨he, hr⟩ => ⟨he, 1, by omega, ?_⟩
    obtain ⟨A3, k1, k2, k3⟩ := hr
    have hO : Out A w w' := ⟨k3.os, k3.tape, k3.output, k3.size, fun g x hx hn => k3.same g x hx (fun e => by subst e; exact hn h.fbA)⟩
    refine ⟨A3, fun g hg => ?_, ⟨h.ok.step (hO.below h.ok.nw h.lo), k2, h.rr⟩, hO⟩
    rcases k1 g hg with e | e
    · subst e; exact .inl h.fbA
    · exact .inr e
  · refine ⟨S, h2, h3, h4, ?_⟩
    refine (write_new_rep h1 (by omega) (calm_nil _ _) newP t (by rw [new_size]; decide) ht (wr_new h2) (whole_none h2)).mono fun e w' hr => ?_
    rcases hr with ⟨hF, _⟩ | ⟨_, he, hr⟩
    · exfalso
      have := hF.1
      rw [h3] at this
      omega
    · exact ⟨he, b + 1, Nat.le_refl _, ComTo.of_rep h.ok h.lo h.rr hr⟩
end
end Go.Proofs.YtknmmlfdlfioiaaGreatDoor.Kq
namespace Go.Proofs.YtknmmlfdlfioiaaGreatDoor.Kq
open Vc Go.RowKit Go.Shelf
section
variable {n0 : Nat} {A A2 : Nat → Prop} {b b' : Nat} {w w' w1 : World} {fb room : Nat} {o : Option ByteArray} {U : Nat} {S : Fs} {t : ByteArray}
/-- Behind Sync. -/
noncomputable def syS (S : Fs) (t : ByteArray) : Fs := { S.fresh newP t with files := updF (S.fresh newP t).files S.came ⟨t, t⟩, steps := (S.fresh newP t).steps + 1 }
/-- Behind Rename. -/
def setU (S : Fs) (u : Int) : Fs := { S with used := u }
noncomputable def mvS (S : Fs) (t : ByteArray) (u : Int) : Fs := setU ((syS S t).enact ⟨1, newP, refsP, some S.came⟩) u
theorem setU_at (S : Fs) (u : Int) : (setU S u).now = S.now ∧ (setU S u).sure = S.sure ∧ (setU S u).acts = S.acts ∧ (setU S u).files = S.files ∧ (setU S u).came = S.came ∧ (setU S u).used = u := ⟨rfl, rfl, rfl, rfl, rfl, rfl⟩
theorem enact_at (S : Fs) (a : Pa) : (S.enact a).now = doN S.now a ∧ (S.enact a).sure = S.sure ∧ (S.enact a).acts = S.acts ++ [a] ∧ (S.enact a).files = S.files ∧ (S.enact a).came = S.came := ⟨rfl, rfl, rfl, rfl, rfl⟩
theorem fresh_all (S : Fs) (p t : ByteArray) : (S.fresh p t).sure = S.sure ∧ (S.fresh p t).acts = S.acts ++ [⟨0, p, ⟨#[]⟩, some S.came⟩] ∧ (S.fresh p t).files = updF S.files S.came ⟨t, ⟨#[]⟩⟩ ∧ (S.fresh p t).came = S.came + 1 := ⟨rfl, rfl, rfl, rfl⟩
theorem sy_all (S : Fs) (t : ByteArray) : (syS S t).sure = (S.fresh newP t).sure ∧ (syS S t).acts = (S.fresh newP t).acts ∧ (syS S t).files = updF (S.fresh newP t).files S.came ⟨t, t⟩ ∧ (syS S t).came = (S.fresh newP t).came := ⟨rfl, rfl, rfl, rfl⟩
theorem doN_moves {n : Nm} {p p2 : ByteArray} {f : Option Nat} (h1 : isDir n (dirOf p2) = true) (h2 : isDir n p2 = false) (h3 : pvN n p = f) : doN n ⟨1, p, p2, f⟩ = fun q => if q = p2 then some f else if q = p then none else n q := by
  unfold doN
  rw [if_neg (by show ¬ (1 : Nat) = 0; omega), if_pos rfl, if_pos ⟨h1, .inl h2⟩]
  funext q
  simp [h3]
theorem root_new (n : Nm) : isDir n (dirOf newP) = true := by rw [dir_new]; rfl
theorem root_refs (n : Nm) : isDir n (dirOf refsP) = true := by rw [dir_refs]; rfl
theorem fresh_at (S : Fs) (p t : ByteArray) : (S.fresh p t).now = doN S.now ⟨0, p, ⟨#[]⟩, some S.came⟩ := rfl
theorem fresh_now (h : Whole S o) (t : ByteArray) : (S.fresh newP t).now = fun q => if q = newP then some (some S.came) else S.now q := by
  rw [fresh_at, doN_comes (whole_none h) (root_new _)]
theorem sy_at (S : Fs) (t : ByteArray) : (syS S t).now = (S.fresh newP t).now := rfl
theorem mv_at (S : Fs) (t : ByteArray) (u : Int) : (mvS S t u).now = doN (syS S t).now ⟨1, newP, refsP, some S.came⟩ := by
  unfold mvS
  rw [(setU_at _ _).1, (enact_at _ _).1]
theorem sy_now (h : Whole S o) (t : ByteArray) : (syS S t).now = fun q => if q = newP then some (some S.came) else S.now q := by rw [sy_at, fresh_now h]
theorem sy_new (h : Whole S o) (t : ByteArray) : (syS S t).now newP = some (some S.came) := by rw [sy_now h]; simp
theorem fresh_new (h : Whole S o) (t : ByteArray) : (S.fresh newP t).now newP = some (some S.came) := by rw [fresh_now h]; simp
theorem sy_refs (h : Whole S o) (t : ByteArray) : (syS S t).now refsP = S.now refsP := by rw [sy_now h]; simp [Ne.symm new_ne_refs]
theorem sy_pv (h : Whole S o) (t : ByteArray) : pvN (syS S t).now newP = some S.came := by
  unfold pvN
  rw [sy_new h]
theorem sy_dir (h : Whole S o) (t : ByteArray) : isDir (syS S t).now refsP = false := by
  have := whole_dir h
  unfold isDir at this ⊢
  rw [sy_refs h]
  exact this
theorem mv_now (h : Whole S o) (t : ByteArray) (u : Int) : (mvS S t u).now = fun q => if q = refsP then some (some S.came) else if q = newP then none else S.now q := by
  rw [mv_at, doN_moves (root_refs _) (sy_dir h t) (sy_pv h t)]
  funext q
  by_cases e : q = refsP
  · rw [if_pos e, if_pos e]
  · rw [if_neg e, if_neg e]
    by_cases e2 : q = newP
    · rw [if_pos e2, if_pos e2]
    · rw [if_neg e2, if_neg e2, sy_now h]
      simp only [if_neg e2]
theorem in_root_new (x : Option Nat) : inP ⟨#[]⟩ ⟨0, newP, ⟨#[]⟩, x⟩ = true := by
  unfold inP inB
  rw [show dirOf (⟨0, newP, ⟨#[]⟩, x⟩ : Pa).p = ⟨#[]⟩ from dir_new]
  simp
theorem in_root_mv (x : Option Nat) : inP ⟨#[]⟩ ⟨1, newP, refsP, x⟩ = true := by
  unfold inP inB
  rw [show dirOf (⟨1, newP, refsP, x⟩ : Pa).p = ⟨#[]⟩ from dir_new]
  simp
theorem mv_acts (h : Whole S o) (t : ByteArray) (u : Int) : (mvS S t u).acts = [⟨0, newP, ⟨#[]⟩, some S.came⟩, ⟨1, newP, refsP, some S.came⟩] := by
  unfold mvS
  rw [(setU_at _ _).2.2.1, (enact_at _ _).2.2.1, (sy_all S t).2.1, (fresh_all S newP t).2.1, h.acts, List.nil_append, List.singleton_append]
theorem mv_sure (h : Whole S o) (t : ByteArray) (u : Int) : (mvS S t u).sure = S.now := by
  unfold mvS
  rw [(setU_at _ _).2.1, (enact_at _ _).2.1, (sy_all S t).1, (fresh_all S newP t).1, h.sure]
/-- All of it: the file holds the new bytes. -/
theorem dir_at (T : Fs) (q : ByteArray) : (T.syncDir q).now = T.now ∧ (T.syncDir q).sure = (T.acts.filter (inP q)).foldl doN T.sure ∧ (T.syncDir q).acts = T.acts.filter (fun a => !inP q a) ∧ (T.syncDir q).files = T.files ∧ (T.syncDir q).came = T.came := ⟨rfl, rfl, rfl, rfl, rfl⟩
theorem mv_rest (S : Fs) (t : ByteArray) (u : Int) : (mvS S t u).files = updF (updF S.files S.came ⟨t, ⟨#[]⟩⟩) S.came ⟨t, t⟩ ∧ (mvS S t u).came = S.came + 1 := by
  unfold mvS
  rw [(setU_at _ _).2.2.2.1, (setU_at _ _).2.2.2.2.1, (enact_at _ _).2.2.2.1, (enact_at _ _).2.2.2.2, (sy_all S t).2.2.1, (sy_all S t).2.2.2, (fresh_all S newP t).2.2.1, (fresh_all S newP t).2.2.2]
  exact ⟨rfl, rfl⟩
theorem lay_whole (h : Whole S o) (t : ByteArray) (u : Int) : Whole ((mvS S t u).syncDir ⟨#[]⟩) (some t) := by
  obtain ⟨hn, hs, ha, hf, hc⟩ := dir_at (mvS S t u) ⟨#[]⟩
  obtain ⟨hf2, hc2⟩ := mv_rest S t u
  have hs2 : ((mvS S t u).syncDir ⟨#[]⟩).sure = (mvS S t u).now := by
    rw [hs, mv_acts h, mv_sure h, mv_at, sy_at, fresh_at]
    simp only [List.filter_cons, in_root_new, in_root_mv, List.filter_nil, if_true, List.foldl_cons, List.foldl_nil]
  refine ⟨fun q hq => ?_, .inr ⟨t, S.came, rfl, ?_, ?_, ?_⟩, by rw [hs2, hn], ?_⟩
  · rw [hn, mv_now h]
    simp only [if_neg hq]
    split
    · rfl
    · exact h.names q hq
  · rw [hc, hc2]
    omega
  · rw [hn, mv_now h]
    simp
  · rw [hf, hf2]
    simp [updF]
  · rw [ha, mv_acts h]
    simp [in_root_new, in_root_mv]
theorem com_sync (h : Coming n0 A b w fb room (S.fresh newP t)) (hW : Whole S o) (hb : b < 890) : Calls Tryz.prog 41 #[.pointer (some ⟨fb, 0, none⟩), .string newP] w fun e w' => e = .returned (.int .i64 0) ∧ ComTo n0 A (b + 1) w fb room (syS S t) w' := by
  have e0 : (S.fresh newP t).syE newP = 0 := by
    unfold Fs.syE pvN
    rw [if_pos new_path, fresh_new hW]
    rfl
  refine (sync_rep h.rep (by omega) (calm_nil _ _) newP (by rw [new_size]; decide)).mono fun e w' ⟨he, hr⟩ => ?_
  rw [e0] at he
  rcases hr with ⟨h0, _⟩ | ⟨_, S', ⟨x, hx, _, hS'⟩, hR⟩
  · exact absurd e0 h0
  · rw [fresh_new hW] at hx
    injection hx with hx
    injection hx with hx
    subst hx
    have e1 : (S.fresh newP t).files S.came = ⟨t, ⟨#[]⟩⟩ := by
      rw [(fresh_all S newP t).2.2.1]
      simp [updF]
    rw [e1] at hS'
    refine ⟨he, ComTo.of_rep h.ok h.rep.lo h.rr ?_⟩
    rw [hS'] at hR
    exact hR
theorem com_move (h : Coming n0 A b w fb room (syS S t)) (hW : Whole S o) (hb : b < 890) : Calls Tryz.prog 42 #[.pointer (some ⟨fb, 0, none⟩), .string newP, .string refsP] w fun e w' => e = .returned (.int .i64 0) ∧ ∃ u, u ≤ S.used + (t.size : Int) ∧ ComTo n0 A (b + 1) w fb room (mvS S t u) w' := by
  have hp := sy_pv hW t
  have hd := sy_dir hW t
  have e0 : (syS S t).rnE newP refsP = 0 := by
    unfold Fs.rnE
    rw [if_pos ⟨new_path, refs_path⟩, sy_new hW, hp, dir_refs, isDir_root, hd, toL_eq, decide_eq_false new_ne_refs]
    rfl
  refine (rename_rep h.rep (by omega) (calm_nil _ _) newP refsP (by rw [new_size]; decide) (by rw [refs_size]; decide)).mono fun e w' ⟨he, hr⟩ => ?_
  rw [e0] at he
  rcases hr with ⟨h0, _⟩ | ⟨_, S', ⟨u, hu, hS'⟩, hR⟩
  · exact absurd e0 h0
  · rw [hp] at hS'
    refine ⟨he, u, hu, ComTo.of_rep h.ok h.rep.lo h.rr ?_⟩
    rw [hS'] at hR
    exact hR
theorem com_dir {u : Int} (h : Coming n0 A b w fb room (mvS S t u)) (hW : Whole S o) (hroom : S.room = room) (hu : u ≤ (U : Int)) (hb : b < 890) : Calls Tryz.prog 43 #[.pointer (some ⟨fb, 0, none⟩), .string ⟨#[]⟩] w fun e w' => e = .returned (.int .i64 0) ∧ AtTo n0 A (b + 1) w fb room (some t) U w' := by
  refine (syncDir_rep h.rep (by omega) (calm_nil _ _) ⟨#[]⟩ (by decide)).mono fun e w' ⟨he, hr⟩ => ?_
  rw [nf_root] at he
  rcases hr with ⟨h0, _⟩ | ⟨_, S', hS', hR⟩
  · exact absurd nf_root h0
  · rw [hS'] at hR
    exact ⟨he, AtTo.of_rep h.ok h.rep.lo h.rr hR (lay_whole hW t u) hroom hu⟩
set_option maxHeartbeats 800000 in
set_option maxRecDepth 100000 in
theorem at_lay (h : At n0 A b w fb room o U) (hb : b < 880) (t : ByteArray) (ht : t.size ≤ 100000000) (hroom : U + t.size ≤ room) :
    Calls Tryz.prog 22 #[.pointer (some ⟨fb, 0, none⟩), .string ⟨#[]⟩, .string newP, .string refsP, .string t] w fun e w' => e = .returned (.int .i64 0) ∧ ∃ b', b' ≤ b + 4 ∧ AtTo n0 A b' w fb room (some t) (U + t.size) w' := by
  obtain ⟨S, hW, hr, hu, hwr⟩ := at_write h (by omega) t ht hroom
  obtain ⟨T1, hT1⟩ : ∃ T : World → Prop, T = fun X => ∃ b', b' ≤ b + 1 ∧ ComTo n0 A b' w fb room (S.fresh newP t) X := ⟨_, rfl⟩
  obtain ⟨T2, hT2⟩ : ∃ T : World → Prop, T = fun X => ∃ b', b' ≤ b + 2 ∧ ComTo n0 A b' w fb room (syS S t) X := ⟨_, rfl⟩
  obtain ⟨T3, hT3⟩ : ∃ T : World → Prop, T = fun X => ∃ b', b' ≤ b + 3 ∧ ∃ u, u ≤ S.used + (t.size : Int) ∧ ComTo n0 A b' w fb room (mvS S t u) X := ⟨_, rfl⟩
  obtain ⟨T4, hT4⟩ : ∃ T : World → Prop, T = fun X => ∃ b', b' ≤ b + 4 ∧ AtTo n0 A b' w fb room (some t) (U + t.size) X := ⟨_, rfl⟩
  have H1 : Hid (Calls Tryz.prog 40 #[.pointer (some ⟨fb, 0, none⟩), .string newP, .string t] w fun e w' => e = .returned (.int .i64 0) ∧ T1 w') := hideIt (by rw [hT1]; exact hwr)
  have H2 : Hid (∀ X, T1 X → Calls Tryz.prog 41 #[.pointer (some ⟨fb, 0, none⟩), .string newP] X fun e w' => e = .returned (.int .i64 0) ∧ T2 w') := hideIt (fun X hX => by
    rw [hT1] at hX
    obtain ⟨b', hb', A3, k1, k2, k3⟩ := hX
    refine (com_sync k2 hW (by omega)).mono fun e w' ⟨he, hc⟩ => ⟨he, ?_⟩
    rw [hT2]
    exact ⟨b' + 1, by omega, ComTo.step k1 k3 hc⟩)
  have H3 : Hid (∀ X, T2 X → Calls Tryz.prog 42 #[.pointer (some ⟨fb, 0, none⟩), .string newP, .string refsP] X fun e w' => e = .returned (.int .i64 0) ∧ T3 w') := hideIt (fun X hX => by
    rw [hT2] at hX
    obtain ⟨b', hb', A3, k1, k2, k3⟩ := hX
    refine (com_move k2 hW (by omega)).mono fun e w' ⟨he, u, hu, hc⟩ => ⟨he, ?_⟩
    rw [hT3]
    exact ⟨b' + 1, by omega, u, hu, ComTo.step k1 k3 hc⟩)
  have H4 : Hid (∀ X, T3 X → Calls Tryz.prog 43 #[.pointer (some ⟨fb, 0, none⟩), .string ⟨#[]⟩] X fun e w' => e = .returned (.int .i64 0) ∧ T4 w') := hideIt (fun X hX => by
    rw [hT3] at hX
    obtain ⟨b', hb', u, hu', A3, k1, k2, k3⟩ := hX
    refine (com_dir (U := U + t.size) k2 hW hr (by omega) (by omega)).mono fun e w' ⟨he, hc⟩ => ⟨he, ?_⟩
    rw [hT4]
    exact ⟨b' + 1, by omega, AtTo.step k1 k3 hc⟩)
  have HE : Hid (∀ X, T4 X → ∃ b', b' ≤ b + 4 ∧ AtTo n0 A b' w fb room (some t) (U + t.size) X) := hideIt (fun X hX => by rw [hT4] at hX; exact hX)
  clear hT1 hT2 hT3 hT4 hwr h hW hr hu
  generalize newP = np at H1 H2 H3 ⊢
  generalize refsP = rp at H3 ⊢
  go_enter Tryz.func22, Tryz.ntmps22
  go_wp2_with (first | (go_at_call 40; refine H1.out.mono ?_; rintro e w1 ⟨rfl, ht1⟩) | (go_at_call 41; refine (H2.out _ ht1).mono ?_; rintro e w2 ⟨rfl, ht2⟩) | (go_at_call 42; refine (H3.out _ ht2).mono ?_; rintro e w3 ⟨rfl, ht3⟩) | (go_at_call 43; refine (H4.out _ ht3).mono ?_; rintro e w4 ⟨rfl, ht4⟩))
  go_ret
  exact ⟨rfl, HE.out _ ht4⟩
end
end Go.Proofs.YtknmmlfdlfioiaaGreatDoor.Kq
namespace Go.Proofs.YtknmmlfdlfioiaaGreatDoor.Kq
open Vc Go.RowKit Go.Shelf
/-- What a file's bytes say: the refs' head and list, or nothing. -/
def rdP (s : ByteArray) : Option (List UInt8 × List Rf.Rf) :=
  if (Cb.unframe s.data.toList).2.2 = 0 ∧ (Cb.unframe s.data.toList).2.1 = s.size ∧ (Rf.decP (Cb.unframe s.data.toList).1).1 = 0 then some (Rf.decP (Cb.unframe s.data.toList).1).2 else none
def rdH : Option (List UInt8 × List Rf.Rf) → ByteArray
  | none => ⟨#[]⟩
  | some r => Cb.bs r.1
def rdL : Option (List UInt8 × List Rf.Rf) → List Rf.Rf
  | none => []
  | some r => r.2
def rdE : Option (List UInt8 × List Rf.Rf) → Int
  | none => 80
  | some _ => 0
def RdTo (w : World) (r : Option (List UInt8 × List Rf.Rf)) (e : Ending) (w' : World) : Prop := ∃ v, e = .returned (.tuple #[.agg #[.string (rdH r), v], .int .i64 (rdE r)]) ∧ Rf.RRow w' v (rdL r) ∧ Below w.heap.size w w'
theorem unframe_le (l : List UInt8) : (Cb.unframe l).1.length ≤ l.length := by
  unfold Cb.unframe
  split
  · exact Nat.zero_le _
  · split
    · exact Nat.zero_le _
    · split
      · exact Nat.zero_le _
      · split
        · exact Nat.zero_le _
        · simp only [List.length_take, List.length_drop]
          omega
/-- A row of refs stays where a pair of a text and a row is laid anew. -/
theorem rrow_set {w : World} {v : Value} {l : List Rf.Rf} {g : Nat} {x : ByteArray} {a : Option Addr} {n c : Nat} {t : TypeId} {fl : Nat × Nat} (h : Rf.RRow w v l) (hg : w.heap[g]? = some (.cells #[.string x, .slice a n c] t fl)) (i : Nat) (u : Value) : Rf.RRow (w.setCell ⟨g, i, none⟩ u) v l := by
  obtain ⟨h0, a1, c1, h1, h2, h3, h4⟩ := h
  refine ⟨h0, a1, c1, h1, h2, h3, fun hp => ?_⟩
  obtain ⟨b, o, e, hlt, hc⟩ := h4 hp
  refine ⟨b, o, e, by simpa [World.setCell] using hlt, fun j z hj => ?_⟩
  have hne : b ≠ g := fun e' => by
    subst e'
    cases l with
    | nil => cases hp
    | cons y ys =>
      have q0 := hc 0 (.string y.nm) (by simp [Rf.rfsV, Rf.rfV])
      have q1 := hc 1 (.string y.id) (by simp [Rf.rfsV, Rf.rfV])
      simp only [World.cell?, hg] at q0 q1
      match o with
      | 0 => simp at q1
      | 1 => simp at q0
      | o + 2 => simp at q0
  have e := heap_setCell_other w ⟨g, i, none⟩ b u (by first | exact hne | exact Ne.symm hne)
  have hce := hc j z hj
  rw [← hce]
  simp only [World.cell?, e]
theorem rd_store {w w3 : World} {H : List UInt8} {L : List Rf.Rf} {a : Option Addr} {n c : Nat} (hb : Below w.heap.size w w3) (hg : w3.heap[w.heap.size]? = some (.cells #[.string ⟨#[]⟩, .slice none 0 0] 37 (0, 0))) (hrow : Rf.RRow w3 (.slice a n c) L) :
    RdTo w (some (H, L)) (.returned (.tuple #[.agg #[.string (Cb.bs H), .slice a n c], .int .i64 0])) ((w3.setCell ⟨w.heap.size, 0, none⟩ (.string (Cb.bs H))).setCell ⟨w.heap.size, 1, none⟩ (.slice a n c)) := by
  refine ⟨_, rfl, rrow_set (rrow_set hrow hg 0 _) (x := Cb.bs H) (a := none) (n := 0) (c := 0) (t := 37) (fl := (0, 0)) ?_ 1 _, (hb.setCell (p := ⟨w.heap.size, 0, none⟩) (Nat.le_refl _) _).setCell (p := ⟨w.heap.size, 1, none⟩) (Nat.le_refl _) _⟩
  rw [heap_setCell_same w3 _ 0 _ 37 _ hg]
  rfl
theorem rd_none {w w3 : World} (hb : Below w.heap.size w w3) : RdTo w none (.returned (.tuple #[.agg #[.string ⟨#[]⟩, .slice none 0 0], .int .i64 80])) ((w3.setCell ⟨w.heap.size, 0, none⟩ (.string ⟨#[]⟩)).setCell ⟨w.heap.size, 1, none⟩ (.slice none 0 0)) :=
  ⟨.slice none 0 0, rfl, Rf.VRow.of_row (Rf.own_nil _ 0 65 2), (hb.setCell (p := ⟨w.heap.size, 0, none⟩) (Nat.le_refl _) _).setCell (p := ⟨w.heap.size, 1, none⟩) (Nat.le_refl _) _⟩
theorem row_form3 {w : World} {v : Value} {l : List Rf.Rf} (h : Rf.RRow w v l) : ∃ a c, v = .slice a l.length c := by
  obtain ⟨_, a, c, h1, _⟩ := h
  exact ⟨a, c, h1⟩
set_option maxHeartbeats 1600000 in
set_option maxRecDepth 100000 in
theorem read_any (s : ByteArray) (w : World) (hs : s.size ≤ 100000) (hK : Cb.KAt w) (hm : MaxAt w) :
    Calls Tryz.prog 33 #[.string s] w fun e w' => RdTo w (rdP s) e w' := by
  obtain ⟨W, hW⟩ : ∃ W, w.alloc (.cells #[.string ⟨#[]⟩, .slice none 0 0] 37) = W := ⟨_, rfl⟩
  have hb : Below w.heap.size w W := by rw [← hW]; exact (Below.refl _ w).alloc (Nat.le_refl _) _
  have hsz : W.heap.size = w.heap.size + 1 := by rw [← hW]; simp
  have hres : W.heap[w.heap.size]? = some (.cells #[.string ⟨#[]⟩, .slice none 0 0] 37 (0, 0)) := by rw [← hW]; exact alloc_at rfl
  have hKW : Cb.KAt W := Cb.K_below hb hK
  have HU := hideIt (Cb.unframe_any s W hKW hs)
  have hle := unframe_le s.data.toList
  have HP : Hid (rdP s = if (Cb.unframe s.data.toList).2.2 = 0 ∧ (Cb.unframe s.data.toList).2.1 = s.size ∧ (Rf.decP (Cb.unframe s.data.toList).1).1 = 0 then some (Rf.decP (Cb.unframe s.data.toList).1).2 else none) := hideIt rfl
  have hsl : s.data.toList.length = s.size := by rw [Array.length_toList]; rfl
  rw [hsl] at hle
  obtain ⟨T, n, E, hu⟩ : ∃ T n E, Cb.unframe s.data.toList = (T, n, E) := ⟨_, _, _, rfl⟩
  rw [hu] at HU hle HP
  simp only at HP hle
  have HF : Hid (∀ w', Below W.heap.size W w' → w'.heap[w.heap.size]? = some (.cells #[.string ⟨#[]⟩, .slice none 0 0] 37 (0, 0))) := hideIt (fun w' hb' => by rw [hb'.block _ (by omega)]; exact hres)
  have HD : Hid (∀ X, Below W.heap.size W X → Calls Tryz.prog 57 #[.string (Cb.bs T)] X fun e w' => ∃ v, e = .returned (.tuple #[.agg #[.string (Cb.bs (Rf.decP T).2.1), v], .int .i64 (Rf.decP T).1]) ∧ Rf.RRow w' v (Rf.decP T).2.2 ∧ Below X.heap.size X w') := hideIt (fun X hX => Rf.decode_any T X (by omega) (hm.base (Rf.below_step hb (Nat.le_refl _) hX) hm.pos))
  have HB := hideIt hb
  have HW := hideIt hW
  have HLL := hideIt hle
  obtain ⟨TT, hTT⟩ : ∃ X, Cb.bs T = X := ⟨_, rfl⟩
  rw [Cb.ufV] at HU
  simp only [hTT] at HU
  rw [hTT] at HD
  have HT := hideIt hTT
  clear hb hW hres hKW hu hTT hK hm hle
  by_cases h1 : E = 0
  · by_cases h2 : n = s.size
    · obtain ⟨Z, H, L, hd⟩ : ∃ Z H L, Rf.decP T = (Z, H, L) := ⟨_, _, _, rfl⟩
      rw [hd] at HD HP
      simp only at HD HP
      subst h1
      have x2 : ((n : Int) == (s.size : Int)) = true := by rw [h2]; simp
      have x3 : ((n : Int) != (s.size : Int)) = false := by rw [h2]; simp
      obtain ⟨TH, hTH⟩ : ∃ X, Cb.bs H = X := ⟨_, rfl⟩
      have HTH := hideIt hTH
      rw [hTH] at HD
      have HARM : Hid (∀ w2 v, Below W.heap.size W w2 → Rf.RRow w2 v L → ∃ a c, v = .slice a L.length c ∧ (w2.alloc (.cells #[.string TH, .slice a L.length c] 37)).heap[w.heap.size]? = some (.cells #[.string ⟨#[]⟩, .slice none 0 0] 37 (0, 0)) ∧ (w2.alloc (.cells #[.string TH, .slice a L.length c] 37)).heap[w2.heap.size]? = some (.cells #[.string TH, .slice a L.length c] 37 (0, 0)) ∧ Rf.RRow (w2.alloc (.cells #[.string TH, .slice a L.length c] 37)) (.slice a L.length c) L ∧ Below w.heap.size w (w2.alloc (.cells #[.string TH, .slice a L.length c] 37))) := hideIt (fun w2 v hb2 hrow => by
        obtain ⟨a, c, rfl⟩ := row_form3 hrow
        have hlt := Vc.block_lt (HF.out w2 hb2)
        refine ⟨a, c, rfl, ?_, alloc_at rfl, Rf.VRow.below hrow (Rf.new_below _ _), ((Rf.below_step HB.out (Nat.le_refl _) hb2).alloc (Nat.le_of_lt hlt) _)⟩
        rw [Below.heap_alloc _ _ _ hlt]
        exact HF.out w2 hb2)
      by_cases h3 : Z = 0
      · subst h3
        have HR : Hid (rdP s = some (H, L)) := hideIt (by rw [HP.out, if_pos ⟨rfl, h2, rfl⟩])
        clear hd h2 hTH
        go_enter Tryz.func33, Tryz.ntmps33
        go_wp2_with (first
          | (go_at_call 56; rw [HW.out]; refine HU.out.mono ?_; rintro e w1 ⟨rfl, hb1⟩; have HB1 := hideIt hb1; clear hb1)
          | (go_at_call 57; refine (HD.out _ HB1.out).mono ?_; rintro e w2 ⟨v, rfl, hrow, hb2⟩; obtain ⟨sa, sc, rfl, p1, p2, p3, p4⟩ := HARM.out w2 v (Rf.below_step HB1.out (Nat.le_refl _) hb2) hrow; have q0 := Vc.cellAt (i := 0) p1 rfl; have q1 := Vc.cellAt (i := 1) p1 rfl; have z0 := thawAt p1 0; have z1 := thawAt p1 1; have m0 := Vc.cellAt (i := 0) p2 rfl; have m1 := Vc.cellAt (i := 1) p2 rfl; have P1 := hideIt p1; have P3 := hideIt p3; have P4 := hideIt p4; clear hrow hb2 p1 p2 p3 p4))
        refine bodyPost_ret (v := .tuple #[.agg #[.string TH, .slice sa L.length sc], .int .i64 0]) ?_ rfl ?_
        · rw [Rf.results_c2 rfl]
          go_simp
        · rw [HR.out, ← HTH.out]
          have h5 := rd_store (H := H) P4.out P1.out P3.out
          rw [HTH.out] at h5 ⊢
          exact h5
      · have z2 : (Z == 0) = false := by simpa using h3
        have z3 : (Z != 0) = true := by simpa using h3
        have HR : Hid (rdP s = none) := hideIt (by rw [HP.out, if_neg (fun h => h3 h.2.2)])
        clear hd h2 hTH
        go_enter Tryz.func33, Tryz.ntmps33
        go_wp2_with (first
          | (go_at_call 56; rw [HW.out]; refine HU.out.mono ?_; rintro e w1 ⟨rfl, hb1⟩; have HB1 := hideIt hb1; clear hb1)
          | (go_at_call 57; refine (HD.out _ HB1.out).mono ?_; rintro e w2 ⟨v, rfl, hrow, hb2⟩; obtain ⟨sa, sc, rfl, p1, p2, p3, p4⟩ := HARM.out w2 v (Rf.below_step HB1.out (Nat.le_refl _) hb2) hrow; have q0 := Vc.cellAt (i := 0) p1 rfl; have q1 := Vc.cellAt (i := 1) p1 rfl; have z0 := thawAt p1 0; have z1 := thawAt p1 1; have P4 := hideIt p4; clear hrow hb2 p1 p2 p3 p4))
        refine bodyPost_ret (v := .tuple #[.agg #[.string ⟨#[]⟩, .slice none 0 0], .int .i64 80]) ?_ rfl ?_
        · rw [Rf.results_c2 rfl]
          go_simp
        · rw [HR.out]
          exact rd_none P4.out
    · subst h1
      have x2 : ((n : Int) == (s.size : Int)) = false := by rw [beq_eq_false_iff_ne]; omega
      have x3 : ((n : Int) != (s.size : Int)) = true := by rw [bne, x2]; rfl
      have x4 : ¬ (n : Int) = (s.size : Int) := by omega
      have HR : Hid (rdP s = none) := hideIt (by rw [HP.out, if_neg (fun h => h2 h.2.1)])
      clear h2
      go_enter Tryz.func33, Tryz.ntmps33
      go_wp2_with (first
        | (go_at_call 56; rw [HW.out]; refine HU.out.mono ?_; rintro e w1 ⟨rfl, hb1⟩; have p1 := HF.out w1 hb1; have q0 := Vc.cellAt (i := 0) p1 rfl; have q1 := Vc.cellAt (i := 1) p1 rfl; have z0 := thawAt p1 0; have z1 := thawAt p1 1; have HB1 := hideIt hb1; clear hb1 p1))
      refine bodyPost_ret (v := .tuple #[.agg #[.string ⟨#[]⟩, .slice none 0 0], .int .i64 80]) ?_ rfl ?_
      · rw [Rf.results_c2 rfl]
        go_simp
      · rw [HR.out]
        exact rd_none (Rf.below_step HB.out (Nat.le_refl _) HB1.out)
  · have z2 : ((E : Int) == 0) = false := by rw [beq_eq_false_iff_ne]; omega
    have z3 : ((E : Int) != 0) = true := by rw [bne, z2]; rfl
    have z4 : ¬ (E : Int) = 0 := by omega
    have HR : Hid (rdP s = none) := hideIt (by rw [HP.out, if_neg (fun h => h1 h.1)])
    clear h1
    go_enter Tryz.func33, Tryz.ntmps33
    go_wp2_with (first
      | (go_at_call 56; rw [HW.out]; refine HU.out.mono ?_; rintro e w1 ⟨rfl, hb1⟩; have p1 := HF.out w1 hb1; have q0 := Vc.cellAt (i := 0) p1 rfl; have q1 := Vc.cellAt (i := 1) p1 rfl; have z0 := thawAt p1 0; have z1 := thawAt p1 1; have HB1 := hideIt hb1; clear hb1 p1))
    refine bodyPost_ret (v := .tuple #[.agg #[.string ⟨#[]⟩, .slice none 0 0], .int .i64 80]) ?_ rfl ?_
    · rw [Rf.results_c2 rfl]
      go_simp
    · rw [HR.out]
      exact rd_none (Rf.below_step HB.out (Nat.le_refl _) HB1.out)
end Go.Proofs.YtknmmlfdlfioiaaGreatDoor.Kq
namespace Go.Proofs.YtknmmlfdlfioiaaGreatDoor.Kq
open Vc Go.RowKit Go.Shelf
def mainL : List UInt8 := [104, 101, 97, 100, 115, 47, 109, 97, 105, 110]
def mainP : ByteArray := ⟨#[104, 101, 97, 100, 115, 47, 109, 97, 105, 110]⟩
theorem main_eq : Cb.bs mainL = mainP := rfl
/-- What a place says. -/
def opP : Option ByteArray → Option (List UInt8 × List Rf.Rf)
  | none => some (mainL, [])
  | some s => rdP s
theorem kept_bel {w w' : World} (h : Kept [] w w') : Below w.heap.size w w' := (Out.kept (A := fun _ => False) h).below (Nat.le_refl _) (fun _ hg => hg.elim)
section
variable {n0 : Nat} {A A2 : Nat → Prop} {b b' : Nat} {w w' w1 : World} {fb room : Nat} {o : Option ByteArray} {U : Nat} {S : Fs}
set_option maxHeartbeats 1600000 in
set_option maxRecDepth 100000 in
theorem at_open (h : At n0 A b w fb room o U) (hb : b < 890) (ho : ∀ s, o = some s → s.size ≤ 100000) :
    Calls Tryz.prog 14 #[.pointer (some ⟨fb, 0, none⟩)] w fun e w' => RdTo w (opP o) e w' := by
  obtain ⟨W, hW⟩ : ∃ W, w.alloc (.cells #[.string ⟨#[]⟩, .slice none 0 0] 37) = W := ⟨_, rfl⟩
  have hbl : Below w.heap.size w W := by rw [← hW]; exact (Below.refl _ w).alloc (Nat.le_refl _) _
  have hsz : W.heap.size = w.heap.size + 1 := by rw [← hW]; simp
  have hres : W.heap[w.heap.size]? = some (.cells #[.string ⟨#[]⟩, .slice none 0 0] 37 (0, 0)) := by rw [← hW]; exact alloc_at rfl
  have hA := h.below hbl
  have HF : Hid (∀ w', Below W.heap.size W w' → w'.heap[w.heap.size]? = some (.cells #[.string ⟨#[]⟩, .slice none 0 0] 37 (0, 0))) := hideIt (fun w' hb' => by rw [hb'.block _ (by omega)]; exact hres)
  have HC : Hid (Calls Tryz.prog 31 #[.pointer (some ⟨fb, 0, none⟩), .string ⟨#[]⟩, .string newP] W fun e w' => e = .returned (.int .i64 0) ∧ Below W.heap.size W w') := hideIt ((at_clear hA hb).mono fun e w' ⟨he, hk⟩ => ⟨he, kept_bel hk⟩)
  have HR : Hid (∀ X, Below W.heap.size W X → Calls Tryz.prog 32 #[.pointer (some ⟨fb, 0, none⟩), .string refsP] X fun e w' => e = .returned (readV o) ∧ Below W.heap.size W w') := hideIt (fun X hX => (at_read (hA.below hX)).mono fun e w' ⟨he, hk⟩ => ⟨he, Rf.below_step hX (Nat.le_refl _) (kept_bel hk)⟩)
  have HB := hideIt hbl
  have HW := hideIt hW
  have HOK : Hid (∀ X, Below W.heap.size W X → Okn n0 X) := hideIt (fun X hX => (hA.below hX).ok)
  have en : newP = ⟨#[114, 101, 102, 115, 46, 110, 101, 119]⟩ := rfl
  have er : refsP = ⟨#[114, 101, 102, 115]⟩ := rfl
  rw [en] at HC
  rw [er] at HR
  clear hbl hW hres hA h
  cases o with
  | none =>
    have hR : readV none = .tuple #[.string ⟨#[]⟩, .int .i64 2] := rfl
    rw [hR] at HR
    go_enter Tryz.func14, Tryz.ntmps14
    go_wp2_with (first
      | (go_at_call 31; rw [HW.out]; refine HC.out.mono ?_; rintro e w1 ⟨rfl, hb1⟩; have HB1 := hideIt hb1; clear hb1)
      | (go_at_call 32; refine (HR.out _ HB1.out).mono ?_; rintro e w2 ⟨rfl, hb2⟩; have p1 := HF.out w2 hb2; have q0 := Vc.cellAt (i := 0) p1 rfl; have q1 := Vc.cellAt (i := 1) p1 rfl; have z0 := thawAt p1 0; have z1 := thawAt p1 1; have P1 := hideIt p1; have HB2 := hideIt hb2; clear hb2 p1))
    refine bodyPost_ret (v := .tuple #[.agg #[.string mainP, .slice none 0 0], .int .i64 0]) ?_ rfl ?_
    · rw [Rf.results_c2 rfl]
      go_simp
      try rfl
    · exact rd_store (H := mainL) (L := []) (Rf.below_step HB.out (Nat.le_refl _) HB2.out) P1.out (Rf.VRow.of_row (Rf.own_nil _ 0 65 2))
  | some s =>
    have hR : readV (some s) = .tuple #[.string s, .int .i64 0] := rfl
    rw [hR] at HR
    have HD : Hid (∀ X, Below W.heap.size W X → Calls Tryz.prog 33 #[.string s] X fun e w' => ∃ a c, e = .returned (.tuple #[.agg #[.string (rdH (rdP s)), .slice a (rdL (rdP s)).length c], .int .i64 (rdE (rdP s))]) ∧ Rf.RRow w' (.slice a (rdL (rdP s)).length c) (rdL (rdP s)) ∧ Below W.heap.size W w') := hideIt (fun X hX => (read_any s X (ho s rfl) (HOK.out X hX).kat (HOK.out X hX).max).mono fun e w' ⟨v, he, hr, hb'⟩ => by
      obtain ⟨a, c, rfl⟩ := row_form3 hr
      exact ⟨a, c, he, hr, Rf.below_step hX (Nat.le_refl _) hb'⟩)
    have hO : opP (some s) = rdP s := rfl
    rw [hO]
    obtain ⟨R, hRR⟩ : ∃ R, rdP s = R := ⟨_, rfl⟩
    rw [hRR] at HD ⊢
    clear hRR hO hR ho HOK
    obtain ⟨TH, hTH⟩ : ∃ X, rdH R = X := ⟨_, rfl⟩
    obtain ⟨E, hE⟩ : ∃ X, rdE R = X := ⟨_, rfl⟩
    rw [hTH, hE] at HD
    have HTH := hideIt hTH
    have HEE := hideIt hE
    clear hTH hE
    go_enter Tryz.func14, Tryz.ntmps14
    go_wp2_with (first
      | (go_at_call 31; rw [HW.out]; refine HC.out.mono ?_; rintro e w1 ⟨rfl, hb1⟩; have HB1 := hideIt hb1; clear hb1)
      | (go_at_call 32; refine (HR.out _ HB1.out).mono ?_; rintro e w2 ⟨rfl, hb2⟩; have HB2 := hideIt hb2; clear hb2)
      | (go_at_call 33; refine (HD.out _ HB2.out).mono ?_; rintro e w3 ⟨sa, sc, rfl, hrow, hb3⟩; have p1 := HF.out w3 hb3; have q0 := Vc.cellAt (i := 0) p1 rfl; have q1 := Vc.cellAt (i := 1) p1 rfl; have z0 := thawAt p1 0; have z1 := thawAt p1 1; have P1 := hideIt p1; have P3 := hideIt hrow; have HB3 := hideIt hb3; clear hb3 p1 hrow))
    refine bodyPost_ret (v := .tuple #[.agg #[.string TH, .slice sa (rdL R).length sc], .int .i64 E]) ?_ rfl ?_
    · rw [Rf.results_c2 rfl]
      go_simp
    · refine ⟨.slice sa (rdL R).length sc, by rw [HTH.out, HEE.out], rrow_set (rrow_set P3.out P1.out 0 _) (x := TH) (a := none) (n := 0) (c := 0) (t := 37) (fl := (0, 0)) ?_ 1 _, ((Rf.below_step HB.out (Nat.le_refl _) HB3.out).setCell (p := ⟨w.heap.size, 0, none⟩) (Nat.le_refl _) _).setCell (p := ⟨w.heap.size, 1, none⟩) (Nat.le_refl _) _⟩
      rw [heap_setCell_same w3 _ 0 _ 37 _ P1.out]
      rfl
end
end Go.Proofs.YtknmmlfdlfioiaaGreatDoor.Kq
namespace Go.Proofs.YtknmmlfdlfioiaaGreatDoor.Kq
open Vc Go.RowKit Go.Shelf
theorem told_take2 (l r : List UInt8) : ((l ++ Cb.told l) ++ r).drop l.length = Cb.told l ++ r ∧ ((l ++ Cb.told l) ++ r).take l.length = l := by
  rw [List.append_assoc]
  exact ⟨List.drop_left, List.take_left⟩
/-- A frame is read again. -/
theorem frame_back2 (l : List UInt8) (h : l.length ≤ 1000000) : Cb.unframe (Cb.frameL l) = (l, (Cb.frameL l).length, 0) := by
  obtain ⟨m, hm⟩ : ∃ m, Cb.Cd.numL l.length = m := ⟨_, rfl⟩
  have hu : Cb.Cd.unnum (Cb.frameL l) = (l.length, m.length, 0) := by
    have := Cb.Cd.unnum_num l.length (by omega) (l ++ Cb.told (m ++ l))
    rw [hm] at this
    rw [← this, Cb.frameL, hm]
    simp [List.append_assoc]
  have hf : Cb.frameL l = (m ++ l) ++ Cb.told (m ++ l) := by rw [Cb.frameL, hm]
  have hl : (m ++ l).length = m.length + l.length := List.length_append
  have ht := told_take2 (m ++ l) []
  rw [List.append_nil, List.append_nil, hl, ← hf] at ht
  have hlen : (Cb.frameL l).length = m.length + l.length + 4 := by rw [hf, List.length_append, hl, Cb.told_len]
  have h4 : (Cb.told (m ++ l)).take 4 = Cb.told (m ++ l) := List.take_of_length_le (by rw [Cb.told_len]; exact Nat.le_refl _)
  have hd : (Cb.frameL l).drop m.length = l ++ Cb.told (m ++ l) := by rw [hf]; simp [List.append_assoc]
  have hlong : ¬ (Cb.frameL l).length < m.length + l.length + 4 := by rw [hlen]; omega
  have hmuch : ¬ 2097152 < l.length := by omega
  unfold Cb.unframe
  rw [hu]
  simp only
  rw [if_neg (fun h => h rfl), if_neg hmuch, if_neg hlong, ht.1, ht.2, h4, if_neg (fun h => h rfl), hd, List.take_left, hlen]
/-- The bytes of the refs' file. -/
def frB (hd : ByteArray) (l : List Rf.Rf) : ByteArray := Cb.bs (Cb.frameL (Rf.encL hd l))
theorem enc_le {hd : ByteArray} {l : List Rf.Rf} (h : Rf.chkR hd l = 0) : (Rf.encL hd l).length ≤ 40000 := by
  obtain ⟨h1, h2, _, h4⟩ := Rf.chkR_wf h
  have := Rf.encL_len hd h2 l h4
  omega
theorem frB_size {hd : ByteArray} {l : List Rf.Rf} (h : Rf.chkR hd l = 0) : (frB hd l).size ≤ 50000 := by
  have h1 := enc_le h
  have h2 := Cb.numL_len (Rf.encL hd l).length (by omega)
  rw [frB, Cb.bs_size, Cb.frameL, List.length_append, List.length_append, Cb.told_len]
  omega
theorem rd_fr {hd : ByteArray} {l : List Rf.Rf} (h : Rf.chkR hd l = 0) : rdP (frB hd l) = some (hd.data.toList, l) := by
  have h1 := frame_back2 (Rf.encL hd l) (by have := enc_le h; omega)
  have h2 := Rf.dec_enc hd l h
  have e1 : (frB hd l).data.toList = Cb.frameL (Rf.encL hd l) := by rw [frB, Cb.bs_list]
  have e2 : (frB hd l).size = (Cb.frameL (Rf.encL hd l)).length := by rw [frB, Cb.bs_size]
  rw [rdP, e1, e2, h1]
  simp only [h2]
  simp
section
variable {n0 : Nat} {A A2 : Nat → Prop} {b b' : Nat} {w w' w1 : World} {fb room : Nat} {o : Option ByteArray} {U : Nat} {S : Fs}
/-- What Save comes to. -/
def SvTo (n0 : Nat) (A : Nat → Prop) (b : Nat) (w : World) (fb room : Nat) (U : Nat) (hd : ByteArray) (l : List Rf.Rf) (e : Ending) (w' : World) : Prop :=
  e = .returned (.int .i64 (Rf.chkR hd l)) ∧ ((Rf.chkR hd l ≠ 0 ∧ Below w.heap.size w w') ∨ (Rf.chkR hd l = 0 ∧ ∃ b', b' ≤ b + 4 ∧ AtTo n0 A b' w fb room (some (frB hd l)) (U + (frB hd l).size) w'))
set_option maxHeartbeats 1600000 in
set_option maxRecDepth 100000 in
theorem at_save (h : At n0 A b w fb room o U) (hb : b < 880) (hd : ByteArray) (v : Value) (l : List Rf.Rf) (hrow : Rf.RRow w v l) (hl : l.length ≤ 100000) (hroom : U + 50000 ≤ room) :
    Calls Tryz.prog 10 #[.pointer (some ⟨fb, 0, none⟩), .agg #[.string hd, v]] w fun e w' => SvTo n0 A b w fb room U hd l e w' := by
  obtain ⟨va, vc, rfl⟩ := row_form3 hrow
  generalize hv : (Value.slice va l.length vc) = v at hrow
  obtain ⟨W, hW⟩ : ∃ W, w.alloc (.cells #[.string hd, v] 37) = W := ⟨_, rfl⟩
  have hbl : Below w.heap.size w W := by rw [← hW]; exact (Below.refl _ w).alloc (Nat.le_refl _) _
  have HE := hideIt (Rf.encode_any hd v l W (Rf.VRow.below hrow hbl) hl)
  have HV : Hid (Rf.encV hd l = if Rf.chkR hd l = 0 then Cb.bs (Rf.encL hd l) else ⟨#[]⟩) := hideIt rfl
  have c0 : W.cell? ⟨w.heap.size, 0, none⟩ = some (.string hd) := Vc.cellAt (i := 0) (by rw [← hW]; exact alloc_at rfl) rfl
  have c1 : W.cell? ⟨w.heap.size, 1, none⟩ = some v := Vc.cellAt (i := 1) (by rw [← hW]; exact alloc_at rfl) rfl
  have HB := hideIt hbl
  have HW := hideIt hW
  have HAT := hideIt (fun X (hX : Below W.heap.size W X) => h.below (Rf.below_step hbl (Nat.le_refl _) hX))
  have HK := hideIt (fun X (hX : Below W.heap.size W X) => (h.below (Rf.below_step hbl (Nat.le_refl _) hX)).ok.kat)
  have HTO : Hid (∀ e w', SvTo n0 A b w fb room U hd l e w' ↔ e = .returned (.int .i64 (Rf.chkR hd l)) ∧ ((Rf.chkR hd l ≠ 0 ∧ Below w.heap.size w w') ∨ (Rf.chkR hd l = 0 ∧ ∃ b', b' ≤ b + 4 ∧ AtTo n0 A b' w fb room (some (frB hd l)) (U + (frB hd l).size) w'))) := hideIt (fun _ _ => Iff.rfl)
  subst hv
  by_cases hz : Rf.chkR hd l = 0
  · have hsz := frB_size hz
    have hen := enc_le hz
    have HFR : Hid (∀ X, Below W.heap.size W X → Calls Tryz.prog 23 #[.string (Cb.bs (Rf.encL hd l))] X fun e w' => e = .returned (.string (frB hd l)) ∧ Below W.heap.size W w') := hideIt (fun X hX => by
      have := Cb.frame_any (Cb.bs (Rf.encL hd l)) X (HK.out X hX) (by rw [Cb.bs_size]; omega)
      rw [Cb.bs_list] at this
      exact this.mono fun e w' ⟨he, hb'⟩ => ⟨he, Rf.below_step hX (Nat.le_refl _) hb'⟩)
    have HLY : Hid (∀ X, Below W.heap.size W X → Calls Tryz.prog 22 #[.pointer (some ⟨fb, 0, none⟩), .string ⟨#[]⟩, .string newP, .string refsP, .string (frB hd l)] X fun e w' => e = .returned (.int .i64 0) ∧ ∃ b', b' ≤ b + 4 ∧ AtTo n0 A b' w fb room (some (frB hd l)) (U + (frB hd l).size) w') := hideIt (fun X hX => by
      refine (at_lay (HAT.out X hX) hb (frB hd l) (by omega) (by omega)).mono fun e w' ⟨he, b', hb', ht⟩ => ⟨he, b', hb', ?_⟩
      exact AtTo.step (fun _ hg => .inl hg) (Out.kept (Kept.of_below (Rf.below_step HB.out (Nat.le_refl _) hX))) ht)
    have en : newP = ⟨#[114, 101, 102, 115, 46, 110, 101, 119]⟩ := rfl
    have er : refsP = ⟨#[114, 101, 102, 115]⟩ := rfl
    rw [en, er] at HLY
    rw [HV.out, if_pos hz, hz] at HE
    have HZ := hideIt hz
    clear hrow hbl hW h hsz hen hroom hz
    go_enter Tryz.func10, Tryz.ntmps10
    go_wp2_with (first
      | (go_at_call 21; (try rw [HW.out]); refine HE.out.mono ?_; rintro e w1 ⟨rfl, hb1⟩; have HB1 := hideIt hb1; clear hb1)
      | (go_at_call 23; refine (HFR.out _ HB1.out).mono ?_; rintro e w2 ⟨rfl, hb2⟩; have HB2 := hideIt hb2; clear hb2)
      | (go_at_call 22; refine (HLY.out _ HB2.out).mono ?_; rintro e w3 ⟨rfl, ht3⟩; have H3 := hideIt ht3; clear ht3))
    go_ret
    exact (HTO.out _ _).2 ⟨by rw [HZ.out]; rfl, .inr ⟨HZ.out, H3.out⟩⟩
  · rw [HV.out, if_neg hz] at HE
    obtain ⟨Z, hZ⟩ : ∃ Z, Rf.chkR hd l = Z := ⟨_, rfl⟩
    rw [hZ] at HE hz
    have z2 : (Z == 0) = false := by simpa using hz
    have z3 : (Z != 0) = true := by simpa using hz
    have HZ := hideIt hZ
    have HNZ := hideIt hz
    clear hrow hbl hW h hroom hZ
    go_enter Tryz.func10, Tryz.ntmps10
    go_wp2_with (first
      | (go_at_call 21; (try rw [HW.out]); refine HE.out.mono ?_; rintro e w1 ⟨rfl, hb1⟩; have HB1 := hideIt hb1; clear hb1))
    go_ret
    exact (HTO.out _ _).2 ⟨by rw [HZ.out]; rfl, .inl ⟨by rw [HZ.out]; exact HNZ.out, Rf.below_step HB.out (Nat.le_refl _) HB1.out⟩⟩
end
end Go.Proofs.YtknmmlfdlfioiaaGreatDoor.Kq
namespace Go.Proofs.YtknmmlfdlfioiaaGreatDoor.Kq
open Vc Go.RowKit Go.Shelf
def otherP : ByteArray := ⟨#[104, 101, 97, 100, 115, 47, 111, 116, 104, 101, 114]⟩
theorem other_ok : Rf.chkR otherP [] = 0 := by
  have h : headB otherP = true := by decide +kernel
  unfold Rf.chkR
  rw [if_neg (by decide), if_pos h]
  rfl
section
variable {n0 : Nat} {A A2 : Nat → Prop} {b b' : Nat} {w w' w1 : World} {fb room : Nat} {o : Option ByteArray} {U : Nat} {S : Fs}
set_option maxHeartbeats 800000 in
set_option maxRecDepth 100000 in
/-- A new place. -/
theorem place_any (ho : Okn n0 w) : Calls Tryz.prog 4 #[] w fun e w' => e = .returned (.pointer (some ⟨w.heap.size, 0, none⟩)) ∧ At n0 (fun g => g = w.heap.size) 0 w' w.heap.size 1048576 none 0 ∧ Below w.heap.size w w' := by
  have HN := hideIt (new_at 1048576 w)
  have HO := hideIt ho
  clear ho
  go_enter Tryz.func4, Tryz.ntmps4
  go_wp2_with (first | (go_at_call 16; refine HN.out.mono ?_; rintro e w1 ⟨rfl, h1, hk1, hs1⟩))
  go_ret
  have hb := kept_bel hk1
  have hnw := HO.out.nw
  exact ⟨rfl, ⟨HO.out.step (hb.mono hnw), fun g hg => by omega, fun g hg => by omega, rfl, by decide, .inl ⟨rfl, h1⟩⟩, hb⟩
/-- A place, told with where it came from. -/
def Mad (n0 : Nat) (w0 : World) (fb room : Nat) (o : Option ByteArray) (U b : Nat) (w : World) : Prop := ∃ A b', b' ≤ b ∧ At n0 A b' w fb room o U ∧ Below n0 w0 w
def Ofd (n0 : Nat) (w0 : World) (fb room : Nat) (o : Option ByteArray) (U b : Nat) (w : World) : Prop := ∃ A b', b' ≤ b ∧ Off n0 A b' w fb room o U ∧ Below n0 w0 w
variable {w0 : World}
theorem Mad.below (h : Mad n0 w0 fb room o U b w) (hb : Below w.heap.size w w') : Mad n0 w0 fb room o U b w' := by
  obtain ⟨A, b', h1, h2, h3⟩ := h
  exact ⟨A, b', h1, h2.below hb, h3.trans (hb.mono h2.ok.nw)⟩
theorem Mad.open (h : Mad n0 w0 fb room o U b w) (hb : b < 890) (ho : ∀ s, o = some s → s.size ≤ 100000) : Calls Tryz.prog 14 #[.pointer (some ⟨fb, 0, none⟩)] w fun e w' => RdTo w (opP o) e w' := by
  obtain ⟨A, b', h1, h2, _⟩ := h
  exact at_open h2 (by omega) ho
theorem Mad.crash (h : Mad n0 w0 fb room o U b w) (hb : b < 880) (keep tn : Int) : Calls Tryz.prog 12 #[.pointer (some ⟨fb, 0, none⟩), .int .u64 keep, .int .i64 tn] w fun e w' => e = .returned (.tuple #[]) ∧ Ofd n0 w0 fb room o (sizeO o) (b + 1) w' := by
  obtain ⟨A, b', h1, h2, h3⟩ := h
  refine (at_crash h2 (by omega) keep tn).mono fun e w' ⟨he, A2, k1, k2, k3⟩ => ⟨he, A2, b' + 1, by omega, k2, h3.trans (k3.below h2.ok.nw h2.lo)⟩
theorem Ofd.up (h : Ofd n0 w0 fb room o U b w) : Calls Tryz.prog 13 #[.pointer (some ⟨fb, 0, none⟩)] w fun e w' => e = .returned (.bool true) ∧ Mad n0 w0 fb room o U b w' := by
  obtain ⟨A, b', h1, h2, h3⟩ := h
  refine (off_up h2).mono fun e w' ⟨he, A2, k1, k2, k3⟩ => ⟨he, A2, b', h1, k2, h3.trans (k3.below h2.ok.nw h2.lo)⟩
theorem Mad.save (h : Mad n0 w0 fb room o U b w) (hb : b < 870) (hd : ByteArray) (v : Value) (l : List Rf.Rf) (hrow : Rf.RRow w v l) (hl : l.length ≤ 100000) (hroom : U + 50000 ≤ room) (hz : Rf.chkR hd l = 0) :
    Calls Tryz.prog 10 #[.pointer (some ⟨fb, 0, none⟩), .agg #[.string hd, v]] w fun e w' => e = .returned (.int .i64 0) ∧ Mad n0 w0 fb room (some (frB hd l)) (U + (frB hd l).size) (b + 4) w' := by
  obtain ⟨A, b', h1, h2, h3⟩ := h
  refine (at_save h2 (by omega) hd v l hrow hl hroom).mono fun e w' ⟨he, hr⟩ => ?_
  rw [hz] at he hr
  rcases hr with ⟨h0, _⟩ | ⟨_, b2, hb2, A2, k1, k2, k3⟩
  · exact absurd rfl h0
  · exact ⟨he, A2, b2, by omega, k2, h3.trans (k3.below h2.ok.nw h2.lo)⟩
set_option maxHeartbeats 3200000 in
set_option maxRecDepth 100000 in
theorem awake_any (ho : Okn n0 w) : Calls Tryz.prog 5 #[] w fun e w' => e = .returned (.bool true) ∧ Below n0 w w' := by
  obtain ⟨fb, hfb⟩ : ∃ fb, w.heap.size = fb := ⟨_, rfl⟩
  have hnw := ho.nw
  have hsz := frB_size other_ok
  obtain ⟨tt, htt⟩ : ∃ t, frB otherP [] = t := ⟨_, rfl⟩
  have hrd := rd_fr other_ok
  have HP : Hid (Calls Tryz.prog 4 #[] w fun e w' => e = .returned (.pointer (some ⟨fb, 0, none⟩)) ∧ Mad n0 w fb 1048576 none 0 0 w') := hideIt ((place_any ho).mono fun e w' ⟨he, h1, h2⟩ => by
    rw [hfb] at he h1
    exact ⟨he, _, 0, Nat.le_refl _, h1, h2.mono hnw⟩)
  have HO1 : Hid (∀ X, Mad n0 w fb 1048576 none 0 0 X → Calls Tryz.prog 14 #[.pointer (some ⟨fb, 0, none⟩)] X fun e w' => ∃ a c, e = .returned (.tuple #[.agg #[.string mainP, .slice a 0 c], .int .i64 0]) ∧ Rf.RRow w' (.slice a 0 c) [] ∧ Mad n0 w fb 1048576 none 0 0 w') := hideIt (fun X hX => (hX.open (by omega) (fun s hs => by cases hs)).mono fun e w' ⟨v, he, hr, hb⟩ => by
    have hr' : Rf.RRow w' v [] := hr
    obtain ⟨a, c, rfl⟩ := row_form3 hr'
    exact ⟨a, c, he, hr', hX.below hb⟩)
  have HSV : Hid (∀ X a c, Mad n0 w fb 1048576 none 0 0 X → Rf.RRow X (.slice a 0 c) [] → Calls Tryz.prog 10 #[.pointer (some ⟨fb, 0, none⟩), .agg #[.string otherP, .slice a 0 c]] X fun e w' => e = .returned (.int .i64 0) ∧ Mad n0 w fb 1048576 (some tt) (0 + tt.size) 4 w') := hideIt (fun X a c hX hr => by
    have := hX.save (by omega) otherP (.slice a 0 c) [] hr (by decide) (by omega) other_ok
    rw [htt] at this
    exact this)
  have HCR : Hid (∀ X, Mad n0 w fb 1048576 (some tt) (0 + tt.size) 4 X → Calls Tryz.prog 12 #[.pointer (some ⟨fb, 0, none⟩), .int .u64 0, .int .i64 0] X fun e w' => e = .returned (.tuple #[]) ∧ Ofd n0 w fb 1048576 (some tt) tt.size 5 w') := hideIt (fun X hX => hX.crash (by omega) 0 0)
  have HUP : Hid (∀ X, Ofd n0 w fb 1048576 (some tt) tt.size 5 X → Calls Tryz.prog 13 #[.pointer (some ⟨fb, 0, none⟩)] X fun e w' => e = .returned (.bool true) ∧ Mad n0 w fb 1048576 (some tt) tt.size 5 w') := hideIt (fun X hX => hX.up)
  have HO2 : Hid (∀ X, Mad n0 w fb 1048576 (some tt) tt.size 5 X → Calls Tryz.prog 14 #[.pointer (some ⟨fb, 0, none⟩)] X fun e w' => ∃ a c, e = .returned (.tuple #[.agg #[.string otherP, .slice a 0 c], .int .i64 0]) ∧ Mad n0 w fb 1048576 (some tt) tt.size 5 w') := hideIt (fun X hX => (hX.open (by omega) (fun s hs => by injection hs with hs; subst hs; rw [← htt]; omega)).mono fun e w' ⟨v, he, hr, hb⟩ => by
    have e1 : opP (some tt) = some (otherP.data.toList, []) := by rw [← htt]; exact hrd
    rw [e1] at he hr
    have hr' : Rf.RRow w' v [] := hr
    obtain ⟨a, c, rfl⟩ := row_form3 hr'
    have e2 : rdH (some (otherP.data.toList, ([] : List Rf.Rf))) = otherP := Cb.bs_data _
    rw [e2] at he
    exact ⟨a, c, he, hX.below hb⟩)
  have HEND : Hid (∀ X, Mad n0 w fb 1048576 (some tt) tt.size 5 X → Below n0 w X) := hideIt (fun X hX => by obtain ⟨_, _, _, _, h⟩ := hX; exact h)
  have HMB : Hid (∀ (oo : Option ByteArray) (UU bb : Nat) X Y, Mad n0 w fb 1048576 oo UU bb X → Below X.heap.size X Y → Mad n0 w fb 1048576 oo UU bb Y) := hideIt (fun oo UU bb X Y h k => h.below k)
  have eo : otherP = ⟨#[104, 101, 97, 100, 115, 47, 111, 116, 104, 101, 114]⟩ := rfl
  rw [eo] at HSV HO2
  clear ho hsz hrd htt hfb hnw
  go_enter Tryz.func5, Tryz.ntmps5
  go_wp2_with (first
    | (go_at_call 4; refine HP.out.mono ?_; rintro e w1 ⟨rfl, h1⟩; have M1 := hideIt h1; clear h1)
    | (go_at_call 14; refine (HO2.out _ M6.out).mono ?_; rintro e w7 ⟨sa2, sc2, rfl, h7⟩; have q7 : (w7.alloc (.cells #[.string ⟨#[104, 101, 97, 100, 115, 47, 111, 116, 104, 101, 114]⟩, .slice sa2 0 sc2] 37)).cell? ⟨w7.heap.size, 0, none⟩ = some (.string ⟨#[104, 101, 97, 100, 115, 47, 111, 116, 104, 101, 114]⟩) := Vc.cellAt (i := 0) (alloc_at rfl) rfl; have M8 := hideIt (HMB.out _ _ _ _ _ h7 (Rf.new_below w7 (.cells #[.string ⟨#[104, 101, 97, 100, 115, 47, 111, 116, 104, 101, 114]⟩, .slice sa2 0 sc2] 37))); clear h7)
    | (go_at_call 13; refine (HUP.out _ M5.out).mono ?_; rintro e w6 ⟨rfl, h6⟩; have M6 := hideIt h6; clear h6)
    | (go_at_call 12; refine (HCR.out _ M4.out).mono ?_; rintro e w5 ⟨rfl, h5⟩; have M5 := hideIt h5; clear h5)
    | (go_at_call 10; refine (HSV.out _ _ _ M3.out R3.out).mono ?_; rintro e w4 ⟨rfl, h4⟩; have M4 := hideIt h4; clear h4)
    | (go_at_call 14; refine (HO1.out _ M1.out).mono ?_; rintro e w2 ⟨sa, sc, rfl, hr, h2⟩; have M3 := hideIt (HMB.out _ _ _ _ _ h2 (Rf.new_below w2 (.cells #[.string ⟨#[104, 101, 97, 100, 115, 47, 111, 116, 104, 101, 114]⟩, .slice sa 0 sc] 37))); have R3 := hideIt (Rf.VRow.below hr (Rf.new_below w2 (.cells #[.string ⟨#[104, 101, 97, 100, 115, 47, 111, 116, 104, 101, 114]⟩, .slice sa 0 sc] 37))); clear hr h2))
  go_ret
  exact ⟨rfl, HEND.out _ M8.out⟩
end
end Go.Proofs.YtknmmlfdlfioiaaGreatDoor.Kq
namespace Go.Proofs.YtknmmlfdlfioiaaGreatDoor.Kq
open Cb Go.RowKit Go.Shelf
/-- What a line of a ref says, whatever its id is. -/
def docLine (c : List UInt8) : Option Rf.Rf :=
  if (Lib.cut c [32]).2.2 = true then match Cd.unhexL (Lib.cut c [32]).1 with
    | some id => some ⟨Cb.bs (Lib.cut c [32]).2.1, Cb.bs id⟩
    | none => none
  else none
def docR : Nat → List UInt8 → Option (List Rf.Rf)
  | _, [] => some []
  | 0, _ :: _ => none
  | n + 1, c :: t => if (Lib.cut (c :: t) [10]).2.2 = true then match docLine (Lib.cut (c :: t) [10]).1 with
    | some x => (docR n (Lib.cut (c :: t) [10]).2.1).map (x :: ·)
    | none => none
    else none
theorem docR_nil (n : Nat) : docR n [] = some [] := by cases n <;> rfl
theorem docR_line (n : Nat) (c R : List UInt8) (h : (10 : UInt8) ∉ c) : docR (n + 1) (c ++ 10 :: R) = match docLine c with
    | some x => (docR n R).map (x :: ·)
    | none => none := by
  have e := Rf.lcut_some 10 c R h
  cases c with
  | nil =>
    rw [List.nil_append] at e ⊢
    rw [docR, e]
    rfl
  | cons a t =>
    rw [List.cons_append] at e ⊢
    rw [docR, e]
    rfl
theorem docR_end (n : Nat) (c : List UInt8) (h : (10 : UInt8) ∉ c) (h0 : c ≠ []) : docR n c = none := by
  cases c with
  | nil => exact absurd rfl h0
  | cons a t =>
    cases n with
    | zero => rfl
    | succ n =>
      rw [docR, Rf.lcut_none 10 _ h]
      rfl
theorem line_ref (S : List UInt8) : Rf.lineRef S = if (Lib.cut S [10]).2.2 = true then match docLine (Lib.cut S [10]).1 with
    | some x => if x.id.size = 32 then some x else none
    | none => none
    else none := by
  unfold Rf.lineRef Rf.lineL docLine
  simp only
  cases (Lib.cut S [10]).2.2
  · simp
  · cases (Lib.cut (Lib.cut S [10]).1 [32]).2.2
    · simp
    · cases Cd.unhexL (Lib.cut (Lib.cut S [10]).1 [32]).1 with
      | none => simp
      | some id => simp [Cb.bs_size]
theorem rows_doc : ∀ (n : Nat) (S : List UInt8) (L : List Rf.Rf), Rf.rowsL n S = some L ↔ docR n S = some L ∧ ∀ x ∈ L, x.id.size = 32
  | n, [], L => by
    have e1 : Rf.rowsL n [] = some [] := by cases n <;> rfl
    rw [e1, docR_nil]
    constructor
    · intro h
      injection h with h
      subst h
      exact ⟨rfl, fun x hx => by cases hx⟩
    · exact fun h => h.1
  | 0, c :: t, L => by
    constructor
    · intro h; cases h
    · intro h; cases h.1
  | n + 1, c :: t, L => by
    rw [Rf.rowsL, docR, line_ref]
    have el : (Rf.lineL (c :: t)).2.2.1 = (Lib.cut (c :: t) [10]).2.1 := rfl
    rw [el]
    cases hc : (Lib.cut (c :: t) [10]).2.2
    · simp
    · simp only [if_true]
      cases hd : docLine (Lib.cut (c :: t) [10]).1 with
      | none => simp
      | some x =>
        simp only
        by_cases h32 : x.id.size = 32
        · rw [if_pos h32]
          simp only
          constructor
          · intro h
            rw [Option.map_eq_some_iff] at h
            obtain ⟨L', h1, rfl⟩ := h
            obtain ⟨h2, h3⟩ := (rows_doc n _ L').1 h1
            refine ⟨by rw [h2]; rfl, fun y hy => ?_⟩
            rcases List.mem_cons.1 hy with e | hy
            · rw [e]; exact h32
            · exact h3 y hy
          · rintro ⟨h, h4⟩
            rw [Option.map_eq_some_iff] at h
            obtain ⟨L', h1, rfl⟩ := h
            rw [(rows_doc n _ L').2 ⟨h1, fun y hy => h4 y (List.mem_cons_of_mem _ hy)⟩]
            rfl
        · rw [if_neg h32]
          simp only
          constructor
          · intro h; cases h
          · rintro ⟨h, h4⟩
            rw [Option.map_eq_some_iff] at h
            obtain ⟨L', _, rfl⟩ := h
            exact absurd (h4 x (by simp)) h32
def headW : List UInt8 := [104, 101, 97, 100]
/-- The first line. -/
theorem head_iff (c : List UInt8) : ((Lib.cut c [32]).2.2 = true ∧ (Lib.cut c [32]).1 = headW) ↔ (5 ≤ c.length ∧ c.take 5 = headW ++ [32]) := by
  constructor
  · rintro ⟨h1, h2⟩
    rcases Rf.lcut_at 32 c with h | ⟨a, r, rfl, h⟩
    · rw [Rf.lcut_none 32 c h] at h1; cases h1
    · rw [Rf.lcut_some 32 a r h] at h2
      have h2' : a = headW := h2
      subst h2'
      exact ⟨by simp [headW], rfl⟩
  · rintro ⟨h1, h2⟩
    have e : c = headW ++ 32 :: c.drop 5 := by
      rw [← List.singleton_append, ← List.append_assoc, ← h2, List.take_append_drop]
    rw [e, Rf.lcut_some 32 headW _ (by decide)]
    exact ⟨rfl, rfl⟩
theorem head_rest {c : List UInt8} (h : c.take 5 = headW ++ [32]) : (Lib.cut c [32]).2.1 = c.drop 5 := by
  have e : c = headW ++ 32 :: c.drop 5 := by
    rw [← List.singleton_append, ← List.append_assoc, ← h, List.take_append_drop]
  have e2 : Lib.cut (headW ++ 32 :: c.drop 5) [32] = (headW, c.drop 5, true) := Rf.lcut_some 32 headW _ (by decide)
  rw [← e] at e2
  rw [e2]
/-- What bytes say: their first line, and the others. -/
def DocOK (S : List UInt8) (hd : List UInt8) (L : List Rf.Rf) : Prop := ∃ c R, S = c ++ 10 :: R ∧ (10 : UInt8) ∉ c ∧ c.take 5 = headW ++ [32] ∧ hd = c.drop 5 ∧ docR R.length R = some L ∧ Rf.chkR (Cb.bs hd) L = 0
theorem dec_ok {S hd : List UInt8} {L : List Rf.Rf} (h : DocOK S hd L) : Rf.decP S = (0, hd, L) := by
  obtain ⟨c, R, rfl, h1, h2, rfl, h4, h5⟩ := h
  have e1 := Rf.lcut_some 10 c R h1
  have h3 := (head_iff c).2 ⟨by have := congrArg List.length h2; rw [List.length_take] at this; simp [headW] at this; omega, h2⟩
  have hr := head_rest h2
  have hw := (rows_doc R.length R L).2 ⟨h4, fun x hx => ((Rf.chkR_wf h5).2.2.2 x hx).2⟩
  have el : Rf.lineL (c ++ 10 :: R) = ((Lib.cut c [32]).1, (Lib.cut c [32]).2.1, R, (Lib.cut c [32]).2.2) := by
    unfold Rf.lineL
    rw [e1]
    simp
  rw [Rf.decP, el]
  simp only
  rw [if_pos (show (Lib.cut c [32]).2.2 = true ∧ (Lib.cut c [32]).1 = [104, 101, 97, 100] from h3), hw]
  simp only
  rw [hr, if_pos h5]
theorem dec_none {S : List UInt8} (h : ∀ hd L, ¬ DocOK S hd L) : (Rf.decP S).1 ≠ 0 := by
  rw [Rf.decP]
  split
  · rename_i hh
    rcases Rf.lcut_at 10 S with h1 | ⟨c, R, rfl, h1⟩
    · have : (Rf.lineL S).2.2.2 = false := by
        unfold Rf.lineL
        rw [Rf.lcut_none 10 S h1]
        rfl
      rw [this] at hh
      cases hh.1
    · have e1 := Rf.lcut_some 10 c R h1
      have el : Rf.lineL (c ++ 10 :: R) = ((Lib.cut c [32]).1, (Lib.cut c [32]).2.1, R, (Lib.cut c [32]).2.2) := by
        unfold Rf.lineL
        rw [e1]
        simp
      rw [el] at hh ⊢
      simp only at hh ⊢
      obtain ⟨h2, h3⟩ := (head_iff c).1 hh
      have hr := head_rest h3
      split
      · rename_i L hL
        obtain ⟨h4, h5⟩ := (rows_doc R.length R L).1 hL
        rw [hr]
        by_cases hz : Rf.chkR (Cb.bs (c.drop 5)) L = 0
        · exact absurd ⟨c, R, rfl, h1, h3, rfl, h4, hz⟩ (h (c.drop 5) L)
        · rw [if_neg hz]
          exact hz
      · decide
  · decide
end Go.Proofs.YtknmmlfdlfioiaaGreatDoor.Kq
namespace Go.Proofs.YtknmmlfdlfioiaaGreatDoor.Kq
open Cb Go.RowKit Go.Shelf
/-- Ahead of a place, at a line's first byte. -/
def DInv (S : List UInt8) (fr : Nat) (fi : Bool) (hd : ByteArray) (la : List Rf.Rf) : Prop :=
  (fi = true ∧ fr = 0 ∧ la = []) ∨ (fi = false ∧ ∃ c R k, S = c ++ 10 :: R ∧ (10 : UInt8) ∉ c ∧ c.take 5 = headW ++ [32] ∧ hd = Cb.bs (c.drop 5) ∧ (S.drop fr).length ≤ k ∧ docR R.length R = (docR k (S.drop fr)).map (la ++ ·))
theorem cut_here {S : List UInt8} {fr i : Nat} (hf : fr ≤ i) (h0 : S[i]? = some 10) : S.drop fr = (S.drop fr).take (i - fr) ++ 10 :: S.drop (i + 1) := by
  obtain ⟨hl, hv⟩ := List.getElem?_eq_some_iff.1 h0
  have e : (S.drop fr).drop (i - fr) = S.drop i := by rw [List.drop_drop]; congr 1; omega
  have e2 : S.drop i = 10 :: S.drop (i + 1) := by rw [List.drop_eq_getElem_cons hl, hv]
  rw [← e2, ← e, List.take_append_drop]
theorem first_line {c c2 R R2 : List UInt8} (h : c ++ 10 :: R = c2 ++ 10 :: R2) (h1 : (10 : UInt8) ∉ c) (h2 : (10 : UInt8) ∉ c2) : c = c2 ∧ R = R2 := by
  have a := Rf.lcut_some 10 c R h1
  have b := Rf.lcut_some 10 c2 R2 h2
  rw [h] at a
  rw [a] at b
  simp at b
  exact b
theorem inv_start (S : List UInt8) : DInv S 0 true ⟨#[]⟩ [] := .inl ⟨rfl, rfl, rfl⟩
/-- The first line says a head. -/
theorem inv_head {S : List UInt8} {fr i : Nat} {hd : ByteArray} {la : List Rf.Rf} (h : DInv S fr true hd la) (h0 : S[i]? = some 10) (hn : (10 : UInt8) ∉ (S.drop fr).take (i - fr)) (hh : ((S.drop fr).take (i - fr)).take 5 = headW ++ [32]) : DInv S (i + 1) false (Cb.bs (((S.drop fr).take (i - fr)).drop 5)) [] := by
  rcases h with ⟨_, rfl, _⟩ | ⟨e, _⟩
  · have e := cut_here (Nat.zero_le i) h0
    rw [List.drop_zero] at e hn hh ⊢
    refine .inr ⟨rfl, _, S.drop (i + 1), (S.drop (i + 1)).length, e, hn, hh, rfl, Nat.le_refl _, ?_⟩
    simp
  · cases e
theorem inv_nohead {S : List UInt8} {fr i : Nat} {hd : ByteArray} {la : List Rf.Rf} (h : DInv S fr true hd la) (h0 : S[i]? = some 10) (hn : (10 : UInt8) ∉ (S.drop fr).take (i - fr)) (hh : ¬ ((S.drop fr).take (i - fr)).take 5 = headW ++ [32]) : ∀ h' L', ¬ DocOK S h' L' := by
  rcases h with ⟨_, rfl, _⟩ | ⟨e, _⟩
  · have e := cut_here (Nat.zero_le i) h0
    rw [List.drop_zero] at e hn hh
    rintro h' L' ⟨c, R, e2, h1, h2, _⟩
    obtain ⟨e3, _⟩ := first_line (e2.symm.trans e) h1 hn
    rw [e3] at h2
    exact hh h2
  · cases e
theorem inv_row {S : List UInt8} {fr i : Nat} {hd : ByteArray} {la : List Rf.Rf} (h : DInv S fr false hd la) (hf : fr ≤ i) (h0 : S[i]? = some 10) (hn : (10 : UInt8) ∉ (S.drop fr).take (i - fr)) {x : Rf.Rf} (hx : docLine ((S.drop fr).take (i - fr)) = some x) : DInv S (i + 1) false hd (la ++ [x]) := by
  rcases h with ⟨e, _⟩ | ⟨_, c, R, k, e1, e2, e3, e4, e5, e6⟩
  · cases e
  · have e := cut_here hf h0
    have hl : (S.drop fr).length = i - fr + 1 + (S.drop (i + 1)).length := by
      have := (List.getElem?_eq_some_iff.1 h0).1
      simp only [List.length_drop]
      omega
    obtain ⟨k', rfl⟩ : ∃ k', k = k' + 1 := ⟨k - 1, by omega⟩
    refine .inr ⟨rfl, c, R, k', e1, e2, e3, e4, by omega, ?_⟩
    rw [e6, e, docR_line k' _ _ hn, hx]
    simp only [Option.map_map]
    congr 1
    funext t
    simp
theorem inv_norow {S : List UInt8} {fr i : Nat} {hd : ByteArray} {la : List Rf.Rf} (h : DInv S fr false hd la) (hf : fr ≤ i) (h0 : S[i]? = some 10) (hn : (10 : UInt8) ∉ (S.drop fr).take (i - fr)) (hx : docLine ((S.drop fr).take (i - fr)) = none) : ∀ h' L', ¬ DocOK S h' L' := by
  rcases h with ⟨e, _⟩ | ⟨_, c, R, k, e1, e2, e3, e4, e5, e6⟩
  · cases e
  · have e := cut_here hf h0
    have hl : (S.drop fr).length = i - fr + 1 + (S.drop (i + 1)).length := by
      have := (List.getElem?_eq_some_iff.1 h0).1
      simp only [List.length_drop]
      omega
    obtain ⟨k', rfl⟩ : ∃ k', k = k' + 1 := ⟨k - 1, by omega⟩
    rintro h' L' ⟨c2, R2, f1, f2, _, _, f5, _⟩
    obtain ⟨_, e8⟩ := first_line (e1.symm.trans f1) e2 f2
    rw [← e8, e6, e, docR_line k' _ _ hn, hx] at f5
    cases f5
theorem inv_much {S : List UInt8} {fr : Nat} {hd : ByteArray} {la : List Rf.Rf} (h : DInv S fr false hd la) (hm : 256 < la.length) : ∀ h' L', ¬ DocOK S h' L' := by
  rcases h with ⟨e, _⟩ | ⟨_, c, R, k, e1, e2, e3, e4, e5, e6⟩
  · cases e
  · rintro h' L' ⟨c2, R2, f1, f2, _, _, f5, f6⟩
    obtain ⟨_, e8⟩ := first_line (e1.symm.trans f1) e2 f2
    rw [← e8, e6, Option.map_eq_some_iff] at f5
    obtain ⟨t, _, rfl⟩ := f5
    have := (Rf.chkR_wf f6).1
    simp at this
    omega
theorem inv_end1 {S : List UInt8} {fr : Nat} {hd : ByteArray} {la : List Rf.Rf} (h : DInv S fr true hd la) (hn : (10 : UInt8) ∉ (S.drop fr).take (S.length - fr)) : ∀ h' L', ¬ DocOK S h' L' := by
  rcases h with ⟨_, rfl, _⟩ | ⟨e, _⟩
  · rw [List.drop_zero, List.take_of_length_le (by omega)] at hn
    rintro h' L' ⟨c, R, e2, _⟩
    rw [e2] at hn
    simp at hn
  · cases e
theorem inv_end2 {S : List UInt8} {fr : Nat} {hd : ByteArray} {la : List Rf.Rf} (h : DInv S fr false hd la) (hn : (10 : UInt8) ∉ (S.drop fr).take (S.length - fr)) (hf : fr < S.length) : ∀ h' L', ¬ DocOK S h' L' := by
  rcases h with ⟨e, _⟩ | ⟨_, c, R, k, e1, e2, e3, e4, e5, e6⟩
  · cases e
  · rw [List.take_of_length_le (by simp)] at hn
    rintro h' L' ⟨c2, R2, f1, f2, _, _, f5, _⟩
    obtain ⟨_, e8⟩ := first_line (e1.symm.trans f1) e2 f2
    rw [← e8, e6, docR_end k _ hn (fun e => by have := congrArg List.length e; simp at this; omega)] at f5
    cases f5
theorem inv_done {S : List UInt8} {fr : Nat} {hd : ByteArray} {la : List Rf.Rf} (h : DInv S fr false hd la) (hf : ¬ fr < S.length) : (Rf.chkR hd la = 0 → DocOK S hd.data.toList la) ∧ (Rf.chkR hd la ≠ 0 → ∀ h' L', ¬ DocOK S h' L') := by
  rcases h with ⟨e, _⟩ | ⟨_, c, R, k, e1, e2, e3, e4, e5, e6⟩
  · cases e
  · have e7 : S.drop fr = [] := List.drop_eq_nil_iff.2 (by omega)
    rw [e7, docR_nil] at e6
    have e8 : docR R.length R = some la := by rw [e6]; simp
    have e9 : hd.data.toList = c.drop 5 := by rw [e4, Cb.bs_list]
    refine ⟨fun hz => ⟨c, R, e1, e2, e3, e9, e8, by rw [e9, ← e4]; exact hz⟩, fun hz => ?_⟩
    rintro h' L' ⟨c2, R2, f1, f2, _, f4, f5, f6⟩
    obtain ⟨g1, g2⟩ := first_line (e1.symm.trans f1) e2 f2
    rw [← g2, e8] at f5
    injection f5 with f5
    rw [f4, ← g1, ← e4, ← f5] at f6
    exact hz f6
/-- Refs that the document's reader gathers. -/
structure DD (w0 : World) (hd : ByteArray) (m : List Rf.Rf) (v : Value) (w : World) : Prop where
  bel : Below w0.heap.size w0 w
  hi : w0.heap.size + 1 < w.heap.size
  res : w.heap[w0.heap.size]? = some (.cells #[.string ⟨#[]⟩, .slice none 0 0] 28 (0, 0))
  box : w.heap[w0.heap.size + 1]? = some (.cells #[.string hd, v] 28 (0, 0))
  row : w.ownsRow (w0.heap.size + 2) 64 2 v m.length (Rf.rfsV m)
theorem DD.below {w0 w w' : World} {hd : ByteArray} {m : List Rf.Rf} {v : Value} (h : DD w0 hd m v w) (hb : Below w.heap.size w w') : DD w0 hd m v w' :=
  ⟨Rf.below_step h.bel (Nat.le_refl _) hb, Nat.lt_of_lt_of_le h.hi hb.size, (hb.block _ (by have := h.hi; omega)).trans h.res, (hb.block _ h.hi).trans h.box, Rf.own_below h.row hb⟩
theorem DD.head {w0 w : World} {hd : ByteArray} {m : List Rf.Rf} {v : Value} (h : DD w0 hd m v w) (x : ByteArray) : DD w0 x m v (w.setCell ⟨w0.heap.size + 1, 0, none⟩ (.string x)) := by
  refine ⟨h.bel.setCell (by show w0.heap.size ≤ w0.heap.size + 1; omega) _, by have := h.hi; simpa [World.setCell] using this, ?_, ?_, Rf.own_other h.row ⟨w0.heap.size + 1, 0, none⟩ (by show w0.heap.size + 1 < _; omega) _⟩
  · rw [heap_setCell_other w ⟨w0.heap.size + 1, 0, none⟩ _ _ (by simp)]; exact h.res
  · rw [heap_setCell_same w _ 0 _ 28 _ h.box]
    rfl
theorem DD.row_new {w0 w : World} {n : Nat} {hd : ByteArray} {m : List Rf.Rf} {v : Value} (h : DD w0 hd m v w) (hn : m.length = n) (o : Obj) : (w.alloc o).ownsRow (w0.heap.size + 2) 64 2 v n (Rf.rfsV m) := by
  subst hn
  exact Rf.own_below h.row ((Below.refl _ w).alloc (Nat.le_refl _) o)
theorem DD.append {w0 w w3 : World} {n : Nat} {hd : ByteArray} {m : List Rf.Rf} {v v3 : Value} {o : Obj} (h : DD w0 hd m v w) (hn : m.length = n) (x : Rf.Rf) (hg : (w.alloc o).grownBy w3 v.ownBlock) (hown : w3.ownsRow (w0.heap.size + 2) 64 2 v3 (n + 1) (Rf.rfsV m ++ Rf.rfV x)) :
    (w3.cell? ⟨w0.heap.size + 1, 1, none⟩ = some v ∧ w3.frozen? ⟨w0.heap.size + 1, 1, none⟩ = false) ∧ DD w0 hd (m ++ [x]) v3 (w3.setCell ⟨w0.heap.size + 1, 1, none⟩ v3) := by
  subst hn
  have hge := Rf.row_ge h.row
  have hhi := h.hi
  have hsz : (w.alloc o).heap.size = w.heap.size + 1 := by simp
  have old : ∀ k, k < w0.heap.size + 2 → w3.heap[k]? = w.heap[k]? := fun k hk => by
    rw [hg.block k (by omega) (fun e => by have := hge _ e.symm; omega), Below.heap_alloc _ _ _ (by omega)]
  have b1 := (old w0.heap.size (by omega)).trans h.res
  have b2 := (old (w0.heap.size + 1) (by omega)).trans h.box
  have hbel : Below w0.heap.size w0 w3 := Below.grown (h.bel.alloc (by omega) o) hg (by omega) (fun k hk => by have := hge k hk; omega)
  refine ⟨⟨Rf.cellAt b2 rfl, Rf.frz b2 1⟩, ⟨hbel.setCell (by show w0.heap.size ≤ w0.heap.size + 1; omega) _, ?_, ?_, ?_, ?_⟩⟩
  · have := hg.size; simp [World.setCell] at *; omega
  · rw [heap_setCell_other w3 ⟨w0.heap.size + 1, 1, none⟩ _ _ (by simp)]; exact b1
  · rw [heap_setCell_same w3 _ 1 _ 28 _ b2]
    rfl
  · have e : Rf.rfsV (m ++ [x]) = Rf.rfsV m ++ Rf.rfV x := by rw [Rf.rfsV_append]; simp [Rf.rfsV]
    rw [e, List.length_append]
    exact Rf.own_other hown ⟨w0.heap.size + 1, 1, none⟩ (by show w0.heap.size + 1 < _; omega) _
/-- What the document's reader comes to. -/
def DocTo (w : World) (S : List UInt8) (e : Ending) (w' : World) : Prop := ∃ (hd : ByteArray) (v : Value) (L : List Rf.Rf) (E : Int), e = .returned (.tuple #[.agg #[.string hd, v], .int .i64 E]) ∧ Rf.RRow w' v L ∧ Below w.heap.size w w' ∧ ((E = 0 ∧ DocOK S hd.data.toList L) ∨ (E ≠ 0 ∧ ∀ h' L', ¬ DocOK S h' L'))
theorem DD.bad {w0 w : World} {S : List UInt8} {hd : ByteArray} {m : List Rf.Rf} {v : Value} (h : DD w0 hd m v w) (E : Int) (hE : E ≠ 0) (hS : ∀ h' L', ¬ DocOK S h' L') : DocTo w0 S (.returned (.tuple #[.agg #[.string ⟨#[]⟩, .slice none 0 0], .int .i64 E])) ((w.setCell ⟨w0.heap.size, 0, none⟩ (.string ⟨#[]⟩)).setCell ⟨w0.heap.size, 1, none⟩ (.slice none 0 0)) :=
  ⟨⟨#[]⟩, .slice none 0 0, [], E, rfl, Rf.VRow.of_row (Rf.own_nil _ 0 65 2), (h.bel.setCell (p := ⟨w0.heap.size, 0, none⟩) (Nat.le_refl _) _).setCell (p := ⟨w0.heap.size, 1, none⟩) (Nat.le_refl _) _, .inr ⟨hE, hS⟩⟩
theorem DD.good {w0 w : World} {S : List UInt8} {hd : ByteArray} {m : List Rf.Rf} {v : Value} (h : DD w0 hd m v w) (hS : DocOK S hd.data.toList m) : DocTo w0 S (.returned (.tuple #[.agg #[.string hd, v], .int .i64 0])) ((w.setCell ⟨w0.heap.size, 0, none⟩ (.string hd)).setCell ⟨w0.heap.size, 1, none⟩ v) :=
  ⟨hd, v, m, 0, rfl, Rf.VRow.of_row (Rf.own_other (Rf.own_other h.row ⟨w0.heap.size, 0, none⟩ (by show w0.heap.size < _; omega) _) ⟨w0.heap.size, 1, none⟩ (by show w0.heap.size < _; omega) _), (h.bel.setCell (p := ⟨w0.heap.size, 0, none⟩) (Nat.le_refl _) _).setCell (p := ⟨w0.heap.size, 1, none⟩) (Nat.le_refl _) _, .inl ⟨rfl, hS⟩⟩
end Go.Proofs.YtknmmlfdlfioiaaGreatDoor.Kq
namespace Go.Proofs.YtknmmlfdlfioiaaGreatDoor.Kq
open Cb Go.RowKit Go.Shelf
theorem at_byte (s : ByteArray) (i : Nat) (h : i < s.size) : s.data.toList[i]? = some s[i] := by
  have h' : i < s.data.size := h
  rw [Array.getElem?_toList, Array.getElem?_eq_getElem h']
  rfl
theorem no_more {S : List UInt8} {fr i : Nat} {c d : UInt8} (hf : fr ≤ i) (h : d ∉ (S.drop fr).take (i - fr)) (h0 : S[i]? = some c) (hc : c ≠ d) : d ∉ (S.drop fr).take (i + 1 - fr) := by
  have e : i + 1 - fr = (i - fr) + 1 := by omega
  have e2 : (S.drop fr)[i - fr]? = some c := by rw [List.getElem?_drop, ← h0]; congr 1; omega
  rw [e, List.take_add_one, e2]
  simp only [Option.toList_some, List.mem_append, List.mem_singleton, not_or]
  exact ⟨h, fun e => hc e.symm⟩
theorem no_more2 {S : List UInt8} {i : Nat} {c d : UInt8} (h : d ∉ S.take i) (h0 : S[i]? = some c) (hc : c ≠ d) : d ∉ S.take (i + 1) := by
  rw [List.take_add_one, h0]
  simp only [Option.toList_some, List.mem_append, List.mem_singleton, not_or]
  exact ⟨h, fun e => hc e.symm⟩
theorem cut_at {c : List UInt8} {b : Nat} (h : (32 : UInt8) ∉ c.take b) (h0 : c[b]? = some 32) : Lib.cut c [32] = (c.take b, c.drop (b + 1), true) := by
  obtain ⟨hl, hv⟩ := List.getElem?_eq_some_iff.1 h0
  have e : c = c.take b ++ 32 :: c.drop (b + 1) := by
    conv => lhs; rw [← List.take_append_drop b c, List.drop_eq_getElem_cons hl, hv]
  have := Rf.lcut_some 32 (c.take b) (c.drop (b + 1)) h
  rw [← e] at this
  exact this
theorem doc_none {c : List UInt8} (h : (32 : UInt8) ∉ c) : docLine c = none := by
  unfold docLine
  rw [Rf.lcut_none 32 c h]
  rfl
theorem doc_bad {c : List UInt8} {b : Nat} (h : (32 : UInt8) ∉ c.take b) (h0 : c[b]? = some 32) (hu : Cd.unhexL (c.take b) = none) : docLine c = none := by
  unfold docLine
  rw [cut_at h h0]
  simp only
  rw [hu]
  rfl
theorem doc_good {c : List UInt8} {b : Nat} (h : (32 : UInt8) ∉ c.take b) (h0 : c[b]? = some 32) {t : List UInt8} (hu : Cd.unhexL (c.take b) = some t) : docLine c = some ⟨Cb.bs (c.drop (b + 1)), Cb.bs t⟩ := by
  unfold docLine
  rw [cut_at h h0]
  simp only
  rw [hu]
  rfl
theorem bs_of {x : ByteArray} {l : List UInt8} (h : x.data.toList = l) : x = Cb.bs l := by rw [← h, Cb.bs_data]
theorem ext_rest (x : ByteArray) (k : Nat) : (x.extract k x.size).data.toList = x.data.toList.drop k := by
  rw [data_mid, List.take_of_length_le]
  rw [List.length_drop, Array.length_toList]
  exact Nat.le_refl _
theorem ext_first (x : ByteArray) (k : Nat) : (x.extract 0 k).data.toList = x.data.toList.take k := by
  rw [data_mid, List.drop_zero, Nat.sub_zero]
end Go.Proofs.YtknmmlfdlfioiaaGreatDoor.Kq
namespace Go.Proofs.YtknmmlfdlfioiaaGreatDoor.Kq
open Vc Go.RowKit Go.Shelf
section
variable {n0 : Nat} {A A2 : Nat → Prop} {b b' : Nat} {w w' w1 : World} {fb room : Nat} {o : Option ByteArray} {U : Nat} {S : Fs}
set_option maxHeartbeats 800000 in
set_option maxRecDepth 100000 in
theorem clear_of (h : Calls Tryz.prog 53 #[.pointer (some ⟨fb, 0, none⟩), .string newP] w fun e w' => e = .returned (.int .i64 2) ∧ Kept [] w w') : Calls Tryz.prog 31 #[.pointer (some ⟨fb, 0, none⟩), .string ⟨#[]⟩, .string newP] w fun e w' => e = .returned (.int .i64 0) ∧ Kept [] w w' := by
  have HR := hideIt h
  clear h
  generalize newP = np at HR ⊢
  go_enter Tryz.func31, Tryz.ntmps31
  go_wp2_with (first | (go_at_call 53; refine HR.out.mono ?_; rintro e w1 ⟨rfl, hk1⟩))
  go_ret
  exact ⟨rfl, hk1⟩
set_option maxHeartbeats 1600000 in
set_option maxRecDepth 100000 in
theorem open_of {T : World → Prop} (hT : ∀ X Y, T X → Below X.heap.size X Y → T Y) (hK : ∀ X, T X → Cb.KAt X ∧ MaxAt X) (hR : ∀ X, T X → Calls Tryz.prog 53 #[.pointer (some ⟨fb, 0, none⟩), .string newP] X fun e w' => e = .returned (.int .i64 2) ∧ Kept [] X w') (hG : ∀ X, T X → Calls Tryz.prog 32 #[.pointer (some ⟨fb, 0, none⟩), .string refsP] X fun e w' => e = .returned (readV o) ∧ Kept [] X w') (h : T w) (ho : ∀ s, o = some s → s.size ≤ 100000) :
    Calls Tryz.prog 14 #[.pointer (some ⟨fb, 0, none⟩)] w fun e w' => RdTo w (opP o) e w' := by
  obtain ⟨W, hW⟩ : ∃ W, w.alloc (.cells #[.string ⟨#[]⟩, .slice none 0 0] 37) = W := ⟨_, rfl⟩
  have hbl : Below w.heap.size w W := by rw [← hW]; exact (Below.refl _ w).alloc (Nat.le_refl _) _
  have hsz : W.heap.size = w.heap.size + 1 := by rw [← hW]; simp
  have hres : W.heap[w.heap.size]? = some (.cells #[.string ⟨#[]⟩, .slice none 0 0] 37 (0, 0)) := by rw [← hW]; exact alloc_at rfl
  have hA := hT _ _ h hbl
  have HF : Hid (∀ w', Below W.heap.size W w' → w'.heap[w.heap.size]? = some (.cells #[.string ⟨#[]⟩, .slice none 0 0] 37 (0, 0))) := hideIt (fun w' hb' => by rw [hb'.block _ (by omega)]; exact hres)
  have HC : Hid (Calls Tryz.prog 31 #[.pointer (some ⟨fb, 0, none⟩), .string ⟨#[]⟩, .string newP] W fun e w' => e = .returned (.int .i64 0) ∧ Below W.heap.size W w') := hideIt ((clear_of (hR _ hA)).mono fun e w' ⟨he, hk⟩ => ⟨he, kept_bel hk⟩)
  have HR : Hid (∀ X, Below W.heap.size W X → Calls Tryz.prog 32 #[.pointer (some ⟨fb, 0, none⟩), .string refsP] X fun e w' => e = .returned (readV o) ∧ Below W.heap.size W w') := hideIt (fun X hX => (hG _ (hT _ _ hA hX)).mono fun e w' ⟨he, hk⟩ => ⟨he, Rf.below_step hX (Nat.le_refl _) (kept_bel hk)⟩)
  have HB := hideIt hbl
  have HW := hideIt hW
  have HOK : Hid (∀ X, Below W.heap.size W X → Cb.KAt X ∧ MaxAt X) := hideIt (fun X hX => hK _ (hT _ _ hA hX))
  have en : newP = ⟨#[114, 101, 102, 115, 46, 110, 101, 119]⟩ := rfl
  have er : refsP = ⟨#[114, 101, 102, 115]⟩ := rfl
  rw [en] at HC
  rw [er] at HR
  clear hbl hW hres hA h
  cases o with
  | none =>
    have hR : readV none = .tuple #[.string ⟨#[]⟩, .int .i64 2] := rfl
    rw [hR] at HR
    go_enter Tryz.func14, Tryz.ntmps14
    go_wp2_with (first
      | (go_at_call 31; rw [HW.out]; refine HC.out.mono ?_; rintro e w1 ⟨rfl, hb1⟩; have HB1 := hideIt hb1; clear hb1)
      | (go_at_call 32; refine (HR.out _ HB1.out).mono ?_; rintro e w2 ⟨rfl, hb2⟩; have p1 := HF.out w2 hb2; have q0 := Vc.cellAt (i := 0) p1 rfl; have q1 := Vc.cellAt (i := 1) p1 rfl; have z0 := thawAt p1 0; have z1 := thawAt p1 1; have P1 := hideIt p1; have HB2 := hideIt hb2; clear hb2 p1))
    refine bodyPost_ret (v := .tuple #[.agg #[.string mainP, .slice none 0 0], .int .i64 0]) ?_ rfl ?_
    · rw [Rf.results_c2 rfl]
      go_simp
      try rfl
    · exact rd_store (H := mainL) (L := []) (Rf.below_step HB.out (Nat.le_refl _) HB2.out) P1.out (Rf.VRow.of_row (Rf.own_nil _ 0 65 2))
  | some s =>
    have hR : readV (some s) = .tuple #[.string s, .int .i64 0] := rfl
    rw [hR] at HR
    have HD : Hid (∀ X, Below W.heap.size W X → Calls Tryz.prog 33 #[.string s] X fun e w' => ∃ a c, e = .returned (.tuple #[.agg #[.string (rdH (rdP s)), .slice a (rdL (rdP s)).length c], .int .i64 (rdE (rdP s))]) ∧ Rf.RRow w' (.slice a (rdL (rdP s)).length c) (rdL (rdP s)) ∧ Below W.heap.size W w') := hideIt (fun X hX => (read_any s X (ho s rfl) (HOK.out X hX).1 (HOK.out X hX).2).mono fun e w' ⟨v, he, hr, hb'⟩ => by
      obtain ⟨a, c, rfl⟩ := row_form3 hr
      exact ⟨a, c, he, hr, Rf.below_step hX (Nat.le_refl _) hb'⟩)
    have hO : opP (some s) = rdP s := rfl
    rw [hO]
    obtain ⟨R, hRR⟩ : ∃ R, rdP s = R := ⟨_, rfl⟩
    rw [hRR] at HD ⊢
    clear hRR hO hR ho HOK
    obtain ⟨TH, hTH⟩ : ∃ X, rdH R = X := ⟨_, rfl⟩
    obtain ⟨E, hE⟩ : ∃ X, rdE R = X := ⟨_, rfl⟩
    rw [hTH, hE] at HD
    have HTH := hideIt hTH
    have HEE := hideIt hE
    clear hTH hE
    go_enter Tryz.func14, Tryz.ntmps14
    go_wp2_with (first
      | (go_at_call 31; rw [HW.out]; refine HC.out.mono ?_; rintro e w1 ⟨rfl, hb1⟩; have HB1 := hideIt hb1; clear hb1)
      | (go_at_call 32; refine (HR.out _ HB1.out).mono ?_; rintro e w2 ⟨rfl, hb2⟩; have HB2 := hideIt hb2; clear hb2)
      | (go_at_call 33; refine (HD.out _ HB2.out).mono ?_; rintro e w3 ⟨sa, sc, rfl, hrow, hb3⟩; have p1 := HF.out w3 hb3; have q0 := Vc.cellAt (i := 0) p1 rfl; have q1 := Vc.cellAt (i := 1) p1 rfl; have z0 := thawAt p1 0; have z1 := thawAt p1 1; have P1 := hideIt p1; have P3 := hideIt hrow; have HB3 := hideIt hb3; clear hb3 p1 hrow))
    refine bodyPost_ret (v := .tuple #[.agg #[.string TH, .slice sa (rdL R).length sc], .int .i64 E]) ?_ rfl ?_
    · rw [Rf.results_c2 rfl]
      go_simp
    · refine ⟨.slice sa (rdL R).length sc, by rw [HTH.out, HEE.out], rrow_set (rrow_set P3.out P1.out 0 _) (x := TH) (a := none) (n := 0) (c := 0) (t := 37) (fl := (0, 0)) ?_ 1 _, ((Rf.below_step HB.out (Nat.le_refl _) HB3.out).setCell (p := ⟨w.heap.size, 0, none⟩) (Nat.le_refl _) _).setCell (p := ⟨w.heap.size, 1, none⟩) (Nat.le_refl _) _⟩
      rw [heap_setCell_same w3 _ 0 _ 37 _ P1.out]
      rfl
set_option maxHeartbeats 800000 in
set_option maxRecDepth 100000 in
theorem place_new (w : World) : Calls Tryz.prog 4 #[] w fun e w' => e = .returned (.pointer (some ⟨w.heap.size, 0, none⟩)) ∧ NewAt w' w.heap.size 1048576 ∧ Below w.heap.size w w' := by
  have HN := hideIt (new_at 1048576 w)
  go_enter Tryz.func4, Tryz.ntmps4
  go_wp2_with (first | (go_at_call 16; refine HN.out.mono ?_; rintro e w1 ⟨rfl, h1, hk1, hs1⟩))
  go_ret
  exact ⟨rfl, h1, kept_bel hk1⟩
/-- A file whose bytes and name are not sure. -/
def Wr (n0 : Nat) (w0 : World) (fb : Nat) (t : ByteArray) (X : World) : Prop := Okn n0 X ∧ Below n0 w0 X ∧ ∃ A, Rep P0 n0 A 1 X fb ((noFs 1048576).fresh refsP t)
variable {w0 : World} {t : ByteArray}
theorem Wr.below {X Y : World} (h : Wr n0 w0 fb t X) (hb : Below X.heap.size X Y) : Wr n0 w0 fb t Y := by
  obtain ⟨h1, h2, A, h3⟩ := h
  have hb' := hb.mono h1.nw
  exact ⟨h1.step hb', h2.trans hb', A, h3.keep (Kept.of_below hb)⟩
theorem no_now (room : Nat) : (noFs room).now = fun _ => none := rfl
theorem wr_at (room : Nat) (t : ByteArray) : ((noFs room).fresh refsP t).now = fun q => if q = refsP then some (some 0) else none := by
  have e : ((noFs room).fresh refsP t).now = doN (noFs room).now ⟨0, refsP, ⟨#[]⟩, some (noFs room).came⟩ := rfl
  rw [e, doN_comes (by rw [no_now]) (root_refs _), no_now]
  rfl
theorem wr_file (room : Nat) (t : ByteArray) : ((noFs room).fresh refsP t).files 0 = ⟨t, ⟨#[]⟩⟩ := by
  have e : ((noFs room).fresh refsP t).files = updF (noFs room).files 0 ⟨t, ⟨#[]⟩⟩ := rfl
  rw [e]
  simp [updF]
theorem wr_remove {X : World} (h : Wr n0 w0 fb t X) : Calls Tryz.prog 53 #[.pointer (some ⟨fb, 0, none⟩), .string newP] X fun e w' => e = .returned (.int .i64 2) ∧ Kept [] X w' := by
  obtain ⟨h1, h2, A, h3⟩ := h
  have e2 : ((noFs 1048576).fresh refsP t).rmE newP = 2 := by
    unfold Fs.rmE
    rw [if_pos new_path, wr_at]
    simp [new_ne_refs]
  refine (remove_rep h3 (by omega) (calm_nil _ _) newP (by rw [new_size]; decide)).mono fun e w' ⟨he, hr⟩ => ?_
  rw [e2] at he
  rcases hr with ⟨_, hk⟩ | ⟨h0, _⟩
  · exact ⟨he, hk⟩
  · rw [e2] at h0; cases h0
theorem wr_read {X : World} (h : Wr n0 w0 fb t X) : Calls Tryz.prog 32 #[.pointer (some ⟨fb, 0, none⟩), .string refsP] X fun e w' => e = .returned (readV (some t)) ∧ Kept [] X w' := by
  obtain ⟨h1, h2, A, h3⟩ := h
  have en : ((noFs 1048576).fresh refsP t).now refsP = some (some 0) := by rw [wr_at]; simp
  have e5 : ((noFs 1048576).fresh refsP t).syE refsP = 0 := by
    unfold Fs.syE pvN
    rw [if_pos refs_path, en]
    rfl
  refine (read_rep h3 (calm_nil _ _) refsP (by rw [refs_size]; decide)).mono fun e w' ⟨hk, hr⟩ => ⟨?_, hk⟩
  rcases hr with ⟨h0, _⟩ | ⟨_, y, hy, _, he⟩
  · exact absurd e5 h0
  · rw [en] at hy
    injection hy with hy
    injection hy with hy
    subst hy
    rw [he, wr_file]
    rfl
theorem wr_open {X : World} (h : Wr n0 w0 fb t X) (ht : t.size ≤ 100000) : Calls Tryz.prog 14 #[.pointer (some ⟨fb, 0, none⟩)] X fun e w' => RdTo X (rdP t) e w' :=
  open_of (T := Wr n0 w0 fb t) (o := some t) (fun _ _ h hb => h.below hb) (fun _ h => ⟨h.1.kat, h.1.max⟩) (fun _ h => wr_remove h) (fun _ h => wr_read h) h (fun s hs => by injection hs with hs; subst hs; exact ht)
theorem wr_write {X : World} (h : NewAt X fb 1048576) (ho : Okn n0 X) (hf : n0 ≤ fb) (hb : Below n0 w0 X) (ht : t.size ≤ 100000) : Calls Tryz.prog 40 #[.pointer (some ⟨fb, 0, none⟩), .string refsP, .string t] X fun e w' => e = .returned (.int .i64 0) ∧ Wr n0 w0 fb t w' := by
  refine (write_fresh h ho.max (by decide) ho.zm hf refsP t (by rw [refs_size]; decide) (by omega) refs_path (by rw [dir_refs]) (by omega)).mono fun e w' ⟨he, hr⟩ => ⟨he, ?_⟩
  obtain ⟨A3, k1, k2, k3⟩ := hr
  have hb2 := k3.below ho.nw (fun g hg => by omega)
  exact ⟨ho.step hb2, hb.trans hb2, A3, k2⟩
end
end Go.Proofs.YtknmmlfdlfioiaaGreatDoor.Kq
namespace Go.Proofs.YtknmmlfdlfioiaaGreatDoor.Kq
open Vc Go.RowKit Go.Shelf
theorem rd_of {t : ByteArray} {T : List UInt8} {n E : Nat} (hu : Cb.unframe t.data.toList = (T, n, E)) : rdP t = if E = 0 ∧ n = t.size ∧ (Rf.decP T).1 = 0 then some (Rf.decP T).2 else none := by
  rw [rdP, hu]
theorem row_grow {w : World} {v : Value} {l : List Rf.Rf} (h : Rf.RRow w v l) {X : World} (hb : Below w.heap.size w X) : Rf.RRow X v l := Rf.VRow.below h hb
/-- What is laid ahead of the law. -/
structure Law0 (w : World) : Prop where
  kat : Cb.KAt w
  max : MaxAt w
  pos : 1 < w.heap.size
end Go.Proofs.YtknmmlfdlfioiaaGreatDoor.Kq
namespace Go.Proofs.YtknmmlfdlfioiaaGreatDoor.Kq
open Vc Go.RowKit Go.Shelf
/-- The value's row is none of these blocks. -/
def OffA (A : Nat → Prop) (v : Value) : Prop := ∀ g off sp n c, 0 < n → v = .slice (some ⟨g, off, sp⟩) n c → ¬ A g
/-- Refs in a box of their own, beside a place. -/
structure Ex (A : Nat → Prop) (g : Nat) (hd : ByteArray) (v : Value) (l : List Rf.Rf) (w : World) : Prop where
  box : w.heap[g]? = some (.cells #[.string hd, v] 28 (0, 0))
  off : ¬ A g
  row : Rf.RRow w v l
  offr : OffA A v
section
variable {n0 : Nat} {A A2 : Nat → Prop} {b b' : Nat} {w w' w1 : World} {fb room : Nat} {o : Option ByteArray} {U : Nat} {S : Fs} {g : Nat} {hd : ByteArray} {v : Value} {l : List Rf.Rf}
/-- A row stays where its block does. -/
theorem rrow_stay (h : Rf.RRow w v l) (hsz : w.heap.size ≤ w'.heap.size) (hk : ∀ (g : Nat) (x : Obj) off sp n c, 0 < n → v = .slice (some ⟨g, off, sp⟩) n c → w.heap[g]? = some x → w'.heap[g]? = some x) : Rf.RRow w' v l := by
  obtain ⟨h0, a1, c1, h1, h2, h3, h4⟩ := h
  refine ⟨h0, a1, c1, h1, h2, h3, fun hp => ?_⟩
  obtain ⟨b, off, e, hlt, hc⟩ := h4 hp
  refine ⟨b, off, e, Nat.lt_of_lt_of_le hlt hsz, fun j z hj => ?_⟩
  have e1 : w.heap[b]? = some w.heap[b] := Array.getElem?_eq_getElem hlt
  have e2 := hk b _ off none l.length c1 hp (by rw [h1, e]) e1
  have hce := hc j z hj
  rw [← hce]
  simp only [World.cell?, e1, e2]
theorem rrow_lt (h : Rf.RRow w v l) : ∀ g off sp n c, 0 < n → v = .slice (some ⟨g, off, sp⟩) n c → g < w.heap.size := fun g off sp n c hn e => by
  obtain ⟨h0, a1, c1, h1, h2, h3, h4⟩ := h
  rw [h1] at e
  injection e with e1 e2 e3
  obtain ⟨b, o', e4, hlt, _⟩ := h4 (by omega)
  rw [e4] at e1
  injection e1 with e1
  injection e1 with e1
  omega
theorem Ex.out (h : Ex A g hd v l w) (hA : ∀ g, A2 g → A g ∨ w.heap.size ≤ g) (hO : Out A w w') : Ex A2 g hd v l w' := by
  refine ⟨hO.same g _ h.box h.off, fun ha => (hA g ha).elim h.off (fun e => by have := Vc.block_lt h.box; omega), rrow_stay h.row hO.size (fun g x off sp n c hn e hx => hO.same g x hx (h.offr g off sp n c hn e)), fun g off sp n c hn e ha => ?_⟩
  rcases hA g ha with e' | e'
  · exact h.offr g off sp n c hn e e'
  · have := rrow_lt h.row g off sp n c hn e
    omega
theorem Ex.below (h : Ex A g hd v l w) (hb : Below w.heap.size w w') : Ex A g hd v l w' :=
  ⟨(hb.block g (Vc.block_lt h.box)).trans h.box, h.off, Rf.VRow.below h.row hb, h.offr⟩
/-- A box that is new. -/
theorem Ex.new (h : ∀ g, A g → g < w.heap.size) (hr : Rf.RRow w v l) (ho : OffA A v) (hd : ByteArray) : Ex A w.heap.size hd v l (w.alloc (.cells #[.string hd, v] 28)) :=
  ⟨alloc_at rfl, fun ha => by have := h _ ha; omega, Rf.VRow.below hr (Rf.new_below _ _), ho⟩
/-- What a box is set to. -/
theorem Ex.put {hd2 : ByteArray} {v2 : Value} {l2 : List Rf.Rf} (h : Ex A g hd v l w) (hr : Rf.RRow w v2 l2) (ho : OffA A v2) : Ex A g hd2 v2 l2 ((w.setCell ⟨g, 0, none⟩ (.string hd2)).setCell ⟨g, 1, none⟩ v2) := by
  obtain ⟨va, vc, rfl⟩ := row_form3 h.row
  have h1 : (w.setCell ⟨g, 0, none⟩ (.string hd2)).heap[g]? = some (.cells #[.string hd2, .slice va l.length vc] 28 (0, 0)) := by
    rw [heap_setCell_same w g 0 _ 28 _ h.box]
    rfl
  refine ⟨?_, h.off, rrow_set (rrow_set hr h.box 0 _) h1 1 _, ho⟩
  rw [heap_setCell_same _ g 1 _ 28 _ h1]
  rfl
/-- Another box set: this one stays. -/
theorem Ex.other {g2 : Nat} {hd2 x : ByteArray} {v2 u : Value} {l2 : List Rf.Rf} (h : Ex A g hd v l w) (h2 : Ex A g2 hd2 v2 l2 w) (hne : g ≠ g2) : Ex A g hd v l ((w.setCell ⟨g2, 0, none⟩ (.string x)).setCell ⟨g2, 1, none⟩ u) := by
  obtain ⟨va, vc, rfl⟩ := row_form3 h2.row
  have h1 : (w.setCell ⟨g2, 0, none⟩ (.string x)).heap[g2]? = some (.cells #[.string x, .slice va l2.length vc] 28 (0, 0)) := by
    rw [heap_setCell_same w g2 0 _ 28 _ h2.box]
    rfl
  refine ⟨?_, h.off, rrow_set (rrow_set h.row h2.box 0 _) h1 1 _, h.offr⟩
  rw [heap_setCell_other _ ⟨g2, 1, none⟩ _ _ (by first | exact hne | exact Ne.symm hne), heap_setCell_other _ ⟨g2, 0, none⟩ _ _ (by first | exact hne | exact Ne.symm hne)]
  exact h.box
theorem At.set (h : At n0 A b w fb room o U) (hg : ¬ A g) (hn : n0 ≤ g) (i : Nat) (u : Value) : At n0 A b (w.setCell ⟨g, i, none⟩ u) fb room o U := by
  have hsz : (w.setCell ⟨g, i, none⟩ u).heap.size = w.heap.size := by simp [World.setCell]
  have hb : Below n0 w (w.setCell ⟨g, i, none⟩ u) := (Below.refl n0 w).setCell (p := ⟨g, i, none⟩) hn _
  have hk : ∀ (k : Nat) (x : Obj), w.heap[k]? = some x → A k → (w.setCell ⟨g, i, none⟩ u).heap[k]? = some x := fun k x hx ha => by
    rw [heap_setCell_other w ⟨g, i, none⟩ _ _ (by first | (intro e; exact hg (e ▸ ha)) | (simp; intro e; exact hg (e ▸ ha)))]
    exact hx
  refine ⟨h.ok.step hb, h.lo, fun k hk' => by rw [hsz]; exact h.inA k hk', h.fbA, h.rr, ?_⟩
  rcases h.st with ⟨e, h1⟩ | ⟨S, h1, r⟩
  · exact .inl ⟨e, hk fb _ h1 h.fbA⟩
  · exact .inr ⟨S, h1.stay (by rw [hsz]; exact Nat.le_refl _) (h.ok.step hb).max hk, r⟩
end
/-- The law's state: the place, the refs that are kept now, the fall that was handed in. -/
structure Kb (W : World) (fb g : Nat) (fl : Array Value) (A : Nat → Prop) (b : Nat) (o : Option ByteArray) (U : Nat) (hd : ByteArray) (v : Value) (l : List Rf.Rf) (w : World) : Prop where
  at' : At (W.heap.size + 1) A b w fb 1048576 o U
  ex : Ex A g hd v l w
  bel : Below W.heap.size W w
  xb : w.heap[W.heap.size]? = some (.cells fl 32 (0, 0))
  gn : W.heap.size + 1 ≤ g
structure KbOff (W : World) (fb g : Nat) (fl : Array Value) (A : Nat → Prop) (b : Nat) (o : Option ByteArray) (U : Nat) (hd : ByteArray) (v : Value) (l : List Rf.Rf) (w : World) : Prop where
  at' : Off (W.heap.size + 1) A b w fb 1048576 o U
  ex : Ex A g hd v l w
  bel : Below W.heap.size W w
  xb : w.heap[W.heap.size]? = some (.cells fl 32 (0, 0))
  gn : W.heap.size + 1 ≤ g
section
variable {W : World} {fb g g2 : Nat} {fl : Array Value} {A : Nat → Prop} {b : Nat} {o : Option ByteArray} {U : Nat} {hd hd2 : ByteArray} {v v2 : Value} {l l2 : List Rf.Rf} {w w' : World}
theorem Kb.below (h : Kb W fb g fl A b o U hd v l w) (hb : Below w.heap.size w w') : Kb W fb g fl A b o U hd v l w' :=
  ⟨h.at'.below hb, h.ex.below hb, h.bel.trans (hb.mono h.bel.size), (hb.block _ (Vc.block_lt h.xb)).trans h.xb, h.gn⟩
theorem bel_low {n : Nat} {W w w' : World} (h : Below W.heap.size W w) (hb : Below n w w') (hn : W.heap.size ≤ n) : Below W.heap.size W w' := h.trans (hb.mono hn)
theorem Kb.save (h : Kb W fb g fl A b o U hd v l w) (h2 : Ex A g2 hd2 v2 l2 w) (hb : b < 870) (hr : ByteArray) (vr : Value) (lr : List Rf.Rf) (hrow : Rf.RRow w vr lr) (hl : lr.length ≤ 100000) (hroom : U + 50000 ≤ 1048576) (hz : Rf.chkR hr lr = 0) :
    Calls Tryz.prog 10 #[.pointer (some ⟨fb, 0, none⟩), .agg #[.string hr, vr]] w fun e w' => e = .returned (.int .i64 0) ∧ ∃ A2 b2, b2 ≤ b + 4 ∧ Kb W fb g fl A2 b2 (some (frB hr lr)) (U + (frB hr lr).size) hd v l w' ∧ Ex A2 g2 hd2 v2 l2 w' := by
  refine (at_save h.at' (by omega) hr vr lr hrow hl hroom).mono fun e w' ⟨he, hq⟩ => ?_
  rw [hz] at he hq
  rcases hq with ⟨h0, _⟩ | ⟨_, b2, hb2, A2, k1, k2, k3⟩
  · exact absurd rfl h0
  · have hbn := k3.below h.at'.ok.nw h.at'.lo
    exact ⟨he, A2, b2, hb2, ⟨k2, h.ex.out k1 k3, bel_low h.bel hbn (by omega), (hbn.block _ (by omega)).trans h.xb, h.gn⟩, h2.out k1 k3⟩
theorem Kb.saveNo (h : Kb W fb g fl A b o U hd v l w) (hb : b < 870) (hr : ByteArray) (vr : Value) (lr : List Rf.Rf) (hrow : Rf.RRow w vr lr) (hl : lr.length ≤ 100000) (hroom : U + 50000 ≤ 1048576) (hz : Rf.chkR hr lr ≠ 0) :
    Calls Tryz.prog 10 #[.pointer (some ⟨fb, 0, none⟩), .agg #[.string hr, vr]] w fun e w' => e = .returned (.int .i64 (Rf.chkR hr lr)) ∧ Below w.heap.size w w' := by
  refine (at_save h.at' (by omega) hr vr lr hrow hl hroom).mono fun e w' ⟨he, hq⟩ => ⟨he, ?_⟩
  rcases hq with ⟨_, h1⟩ | ⟨h0, _⟩
  · exact h1
  · exact absurd h0 hz
theorem Kb.crash (h : Kb W fb g fl A b o U hd v l w) (hb : b < 880) (keep tn : Int) :
    Calls Tryz.prog 12 #[.pointer (some ⟨fb, 0, none⟩), .int .u64 keep, .int .i64 tn] w fun e w' => e = .returned (.tuple #[]) ∧ ∃ A2, KbOff W fb g fl A2 (b + 1) o (sizeO o) hd v l w' := by
  refine (at_crash h.at' (by omega) keep tn).mono fun e w' ⟨he, A2, k1, k2, k3⟩ => ?_
  have hbn := k3.below h.at'.ok.nw h.at'.lo
  exact ⟨he, A2, ⟨k2, h.ex.out k1 k3, bel_low h.bel hbn (by omega), (hbn.block _ (by omega)).trans h.xb, h.gn⟩⟩
theorem KbOff.up (h : KbOff W fb g fl A b o U hd v l w) :
    Calls Tryz.prog 13 #[.pointer (some ⟨fb, 0, none⟩)] w fun e w' => e = .returned (.bool true) ∧ ∃ A2, Kb W fb g fl A2 b o U hd v l w' := by
  refine (off_up h.at').mono fun e w' ⟨he, A2, k1, k2, k3⟩ => ?_
  have hbn := k3.below h.at'.ok.nw h.at'.lo
  exact ⟨he, A2, ⟨k2, h.ex.out k1 k3, bel_low h.bel hbn (by omega), (hbn.block _ (by omega)).trans h.xb, h.gn⟩⟩
theorem Kb.open (h : Kb W fb g fl A b o U hd v l w) (hb : b < 880) (ho : ∀ s, o = some s → s.size ≤ 100000) (hs : opP o = some (hd.data.toList, l)) :
    Calls Tryz.prog 14 #[.pointer (some ⟨fb, 0, none⟩)] w fun e w' => ∃ a c, e = .returned (.tuple #[.agg #[.string hd, .slice a l.length c], .int .i64 0]) ∧ Rf.RRow w' (.slice a l.length c) l ∧ Below w.heap.size w w' := by
  refine (at_open h.at' (by omega) ho).mono fun e w' ⟨v2, he, hr, hb2⟩ => ?_
  rw [hs] at he hr
  have hr' : Rf.RRow w' v2 l := hr
  obtain ⟨a, c, rfl⟩ := row_form3 hr'
  have e2 : rdH (some (hd.data.toList, l)) = hd := Cb.bs_data _
  rw [e2] at he
  exact ⟨a, c, he, hr', hb2⟩
/-- The refs that are kept now are these. -/
theorem Kb.now (h : Kb W fb g fl A b o U hd v l w) (h2 : Ex A g2 hd2 v2 l2 w) : Kb W fb g fl A b o U hd2 v2 l2 ((w.setCell ⟨g, 0, none⟩ (.string hd2)).setCell ⟨g, 1, none⟩ v2) := by
  have hn := h.gn
  refine ⟨(h.at'.set h.ex.off h.gn 0 _).set h.ex.off h.gn 1 _, h.ex.put h2.row h2.offr, (h.bel.setCell (p := ⟨g, 0, none⟩) (by show W.heap.size ≤ g; omega) _).setCell (p := ⟨g, 1, none⟩) (by show W.heap.size ≤ g; omega) _, ?_, h.gn⟩
  have hne : W.heap.size ≠ g := by omega
  rw [heap_setCell_other _ ⟨g, 1, none⟩ _ _ (by first | exact hne | exact Ne.symm hne), heap_setCell_other _ ⟨g, 0, none⟩ _ _ (by first | exact hne | exact Ne.symm hne)]
  exact h.xb
theorem Kb.read (h : Kb W fb g fl A b o U hd v l w) : Calls Tryz.prog 32 #[.pointer (some ⟨fb, 0, none⟩), .string refsP] w fun e w' => e = .returned (readV o) ∧ Below w.heap.size w w' :=
  (at_read h.at').mono fun _ _ ⟨he, hk⟩ => ⟨he, kept_bel hk⟩
end
end Go.Proofs.YtknmmlfdlfioiaaGreatDoor.Kq
namespace Go.Proofs.YtknmmlfdlfioiaaGreatDoor.Kq
open Cb Go.RowKit
set_option maxHeartbeats 1600000 in
set_option maxRecDepth 100000 in
theorem cut_any (hd : ByteArray) (v : Value) (l : List Rf.Rf) (w : World) (h : Rf.RRow w v l) :
    Calls Tryz.prog 9 #[.agg #[.string hd, v]] w fun e w' => Rf.CutTo w hd (l.take 260) e w' := by
  have HT : Hid (∀ e w', Rf.CutTo w hd (l.take 260) e w' ↔ ∃ v, e = .returned (.agg #[.string hd, v]) ∧ Rf.RRow w' v (l.take 260) ∧ Below w.heap.size w w') := hideIt (fun _ _ => Iff.rfl)
  have HR := hideIt h
  obtain ⟨h0, a, c, rfl, h1, h2, h3⟩ := h
  obtain ⟨n, hn⟩ : ∃ n, l.length = n := ⟨_, rfl⟩
  have hnm : (n : Int) ≤ 9223372036854775807 := by have := h2.1; unfold maxLen at this; omega
  have hcm : (c : Int) ≤ 9223372036854775807 := by have := h2.1; unfold maxLen at this; omega
  rw [hn] at h1 HR ⊢
  by_cases hlt : 260 < n
  · have d1 : decide ((260 : Int) < (n : Int)) = true := decide_eq_true (by omega)
    have d2 : (260 : Int) < (n : Int) := by omega
    have d3 : (260 : Int) ≤ (c : Int) := by omega
    have d4 : 260 ≤ c := by omega
    have HF : Hid (Rf.RRow w (.slice a 260 c) (l.take 260)) := hideIt (HR.out.take 260 (by omega))
    clear h0 h3 hn
    go_enter Tryz.func9, Tryz.ntmps9
    go_wp2
    refine bodyPost_ret (v := .agg #[.string hd, .slice a 260 c]) (results_cell_row Tryz.results9 _ _ (w.heap.size + 1) 37 _ (0, 0) _ rfl (heap_alloc2_new w _ _) Tryz.underlying37 rfl Rf.infoRs) rfl ?_
    have hb : Below w.heap.size w ((w.alloc (.cells #[.string hd, .slice a 260 c] 37)).alloc (.cells #[.string hd, .slice a 260 c] 37)) := ((Below.refl _ w).alloc (Nat.le_refl _) _).alloc (by simp) _
    exact (HT.out _ _).2 ⟨_, rfl, HF.out.below hb, hb⟩
  · have d1 : decide ((260 : Int) < (n : Int)) = false := decide_eq_false (by omega)
    have HF : Hid (Rf.RRow w (.slice a n c) (l.take 260)) := hideIt (by rw [List.take_of_length_le (by omega)]; exact HR.out)
    clear h0 h3 hn
    go_enter Tryz.func9, Tryz.ntmps9
    go_wp2
    refine bodyPost_ret (v := .agg #[.string hd, .slice a n c]) (results_cell_row Tryz.results9 _ _ (w.heap.size + 1) 37 _ (0, 0) _ rfl (heap_alloc2_new w _ _) Tryz.underlying37 rfl Rf.infoRs) rfl ?_
    have hb : Below w.heap.size w ((w.alloc (.cells #[.string hd, .slice a n c] 37)).alloc (.cells #[.string hd, .slice a n c] 37)) := ((Below.refl _ w).alloc (Nat.le_refl _) _).alloc (by simp) _
    exact (HT.out _ _).2 ⟨_, rfl, HF.out.below hb, hb⟩
end Go.Proofs.YtknmmlfdlfioiaaGreatDoor.Kq
namespace Go.Proofs.YtknmmlfdlfioiaaGreatDoor.Kq
open Go.ChangeShapes Go.WideShapes Go.ChangeAt Go.WideMaps Go.WideElems Go.RowKit Go.Deep
set_option maxRecDepth 100000
/-- Refs as they are handed in: the branch, the row, what it holds. -/
structure RsE where
  hd : ByteArray
  v : Value
  l : List Rf.Rf
instance : Inhabited RsE := ⟨⟨⟨#[]⟩, .slice none 0 0, []⟩⟩
/-- All of them have texts that can be. -/
def RsOK (x : RsE) : Prop := x.hd.size ≤ maxLen ∧ ∀ (i : Nat) (y : Rf.Rf), x.l[i]? = some y → y.nm.size ≤ maxLen ∧ y.id.size ≤ maxLen
/-- A row of refs in memory. -/
def RsRow (w : World) (v : Value) (rs : List RsE) : Prop := ∃ a c, v = .slice a rs.length c ∧ (0 < rs.length → ∃ b o, a = some ⟨b, o, none⟩ ∧ b < w.heap.size ∧ ∀ (i : Nat) (x : RsE), rs[i]? = some x → w.cell? ⟨b, o + i * 2, none⟩ = some (.string x.hd) ∧ w.cell? ⟨b, o + i * 2 + 1, none⟩ = some x.v ∧ Rf.RRow w x.v x.l ∧ RsOK x)
theorem open_one {H : Type} {enc : TypeId × Value → H} {W : World} {fuel : Nat} {cs : List Value} {y : DataW H × List MemPlace} (h : DataW.trod enc Tryz.prog W 0 (fun _ => true) true fuel 37 cs = some y) :
    ∃ x : RsE, cs = [.string x.hd, x.v] ∧ Rf.RRow W x.v x.l ∧ RsOK x ∧ (∀ p ∈ y.2, p.block < W.heap.size) := by
  obtain ⟨y0, y1, n, hx, hl, h0, h1⟩ := trod_struct2 Tryz.underlying37 h
  obtain ⟨c0, c1, rfl⟩ := Rf.list2 (hl.trans Rf.cellsRs)
  simp [Rf.cells9] at h0 h1
  obtain ⟨z0, e0, x0, l0⟩ := DataW.trod_string Tryz.underlying9 h0
  obtain ⟨l, hr, hz, hp⟩ := Rf.open_row h1
  simp only [List.cons.injEq, and_true] at e0
  subst e0
  refine ⟨⟨z0, c1, l⟩, rfl, hr, ⟨l0, hz⟩, fun p hp' => ?_⟩
  rw [hx] at hp'
  rcases List.mem_append.1 hp' with hp' | hp'
  · rw [x0] at hp'; cases hp'
  · exact hp p hp'
theorem open_rrow {H : Type} {enc : TypeId × Value → H} {W : World} {fuel : Nat} {v : Value} {y : DataW H × List MemPlace} (hf : DataW.trod enc Tryz.prog W 0 (fun _ => true) true fuel 22 [v] = some y) :
    ∃ rs : List RsE, RsRow W v rs ∧ (∀ p ∈ y.2, p.block < W.heap.size) := by
  rcases open_slice Tryz.underlying22 hf with ⟨hcs, hx⟩ | ⟨a, len, cap, m, n, D, Pl, hcs, hb, hl, hm, hmm, hx, hel⟩
  · simp only [List.cons.injEq, and_true] at hcs
    subst hcs
    refine ⟨[], ⟨none, 0, rfl, fun h => by simp at h⟩, ?_⟩
    rw [hx]
    simp
  · simp only [List.cons.injEq, and_true] at hcs
    subst hcs
    simp only [if_true] at hmm
    subst hmm
    rw [Rf.cellsRs] at hel hx
    obtain ⟨E, hE⟩ := choose_lt (α := RsE) (p := fun i x => W.cell? ((a.add (i * 2)).add 0) = some (.string x.hd) ∧ W.cell? ((a.add (i * 2)).add 1) = some x.v ∧ Rf.RRow W x.v x.l ∧ RsOK x ∧ ∀ p ∈ Pl i, p.block < W.heap.size) (n := m) (fun i hi => by
      obtain ⟨cs', h1, h2⟩ := hel i hi
      obtain ⟨x, rfl, hr, hs, hp⟩ := open_one h2
      obtain ⟨_, _, hc⟩ := World.cells?_some h1
      exact ⟨x, (hc 0 (by omega)).trans rfl, (hc 1 (by omega)).trans rfl, hr, hs, hp⟩)
    have hlt : 0 < m → a.block < W.heap.size ∧ a.spot = none := by
      intro h0
      have h1 : W.cell? a = some (.string (E 0).hd) := by
        have := (hE 0 h0).1
        simpa [Addr.add] using this
      exact ⟨Rf.cell_lt h1, by obtain ⟨b, o, sp⟩ := a; exact Rf.cell_none h1⟩
    have hat : ∀ (i : Nat) (x : RsE), ((List.range len).map E)[i]? = some x → i < len ∧ x = E i := fun i x hx => by
      have hi : i < len := by have := (List.getElem?_eq_some_iff.1 hx).1; simpa using this
      rw [List.getElem?_map, List.getElem?_range hi] at hx
      exact ⟨hi, by simpa using hx.symm⟩
    refine ⟨(List.range len).map E, ⟨some a, m, by simp, fun h0 => ?_⟩, ?_⟩
    · have h0' : 0 < len := by simpa using h0
      obtain ⟨h1, h2⟩ := hlt (by omega)
      refine ⟨a.block, a.off, by rw [← h2], h1, fun i x hx => ?_⟩
      obtain ⟨hi, rfl⟩ := hat i x hx
      obtain ⟨e0, e1, e2, e3, _⟩ := hE i (by omega)
      obtain ⟨b, o, sp⟩ := a
      simp only at h2
      subst h2
      rw [Rf.add2] at e0 e1
      exact ⟨e0, e1, e2, e3⟩
    · intro p hp
      rw [hx] at hp
      rcases List.mem_append.1 hp with hp | hp
      · obtain ⟨k, hk, rfl⟩ := MemPlace.mem_row.1 hp
        exact (hlt (by omega)).1
      · obtain ⟨i, hi, hp⟩ := List.mem_flatMap.1 hp
        exact (hE i (List.mem_range.1 hi)).2.2.2.2 p hp
theorem open_rlist {H : Type} {enc : TypeId × Value → H} {W : World} {b0 : Nat} {r : Reach} {v : Value} {d : DataW H} {ps : List MemPlace} (hv : Value.okWide Tryz.prog W r b0 22 v) (h : DataW.Trod enc Tryz.prog W 0 (fun _ => true) true 22 v d ps) :
    ∃ rs : List RsE, RsRow W v rs ∧ (∀ p ∈ ps, p.block < W.heap.size) := by
  obtain ⟨a0, len0, cap0, rfl⟩ := okWide_slice Tryz.underlying22 hv
  obtain ⟨fuel, hf⟩ := h
  exact open_rrow (y := (d, ps)) hf
theorem cellsFall : Tryz.prog.cellsOf 32 = 3 := by kernel_rfl
theorem open_fall {H : Type} {enc : TypeId × Value → H} {W : World} {b0 : Nat} {r : Reach} {v : Value} {d : DataW H} {ps : List MemPlace} (hv : Value.okWide Tryz.prog W r b0 32 v) (h : DataW.Trod enc Tryz.prog W 0 (fun _ => true) true 32 v d ps) :
    ∃ a k t : Int, v = .agg #[.int .i64 a, .int .u64 k, .int .i64 t] ∧ (∀ p ∈ ps, p.block < W.heap.size) := by
  obtain ⟨v0, v1, v2, y0, y1, y2, n, rfl, rfl, rfl, h0, h1, h2⟩ := Joins.open_agg3 Tryz.underlying32 (by kernel_rfl) cellsFall hv h
  obtain ⟨a, e0, x0, _⟩ := DataW.trod_int Tryz.underlying3 h0
  obtain ⟨k, e1, x1, _⟩ := DataW.trod_int Tryz.underlying30 h1
  obtain ⟨t, e2, x2, _⟩ := DataW.trod_int Tryz.underlying3 h2
  simp only [List.cons.injEq, and_true] at e0 e1 e2
  subst e0 e1 e2
  refine ⟨a, k, t, rfl, fun p hp => ?_⟩
  rw [x0, x1, x2] at hp
  simp at hp
end Go.Proofs.YtknmmlfdlfioiaaGreatDoor.Kq
