/- Refs: a line in two: walked. -/
import Derived.Test.YtknmmlfdlfioiaaGreatDoorRfRe
import Derived.Test.YtknmmlfdlfioiaaGreatDoorShelf
namespace Go.Proofs.YtknmmlfdlfioiaaGreatDoor.Rf
open Cb Go.RowKit
/-- A text in two at a byte: what stands ahead of it, behind it, and whether it is there. -/
def cut1 (s : ByteArray) (c : UInt8) : ByteArray × ByteArray × Bool := (⟨(Lib.cut s.data.toList [c]).1.toArray⟩, ⟨(Lib.cut s.data.toList [c]).2.1.toArray⟩, (Lib.cut s.data.toList [c]).2.2)
/-- The first line of a text. -/
def lineR (s : ByteArray) : ByteArray × ByteArray × ByteArray × Bool := ((cut1 (cut1 s 10).1 32).1, (cut1 (cut1 s 10).1 32).2.1, (cut1 s 10).2.1, (cut1 s 10).2.2 && (cut1 (cut1 s 10).1 32).2.2)
/-- A world in which orders were drawn, and nothing else was done. -/
def Dr (w w' : World) : Prop := ∃ n, w' = w.drewN n
theorem dr_add (w : World) (n k : Nat) : Dr w ((w.drewN n).drewN k) := ⟨n + k, by simp [World.drewN]; try omega⟩
set_option maxHeartbeats 800000 in
set_option maxRecDepth 100000 in
theorem readLine_any (s : ByteArray) (m : Int) (w : World) (hs : s.size < 4294967281) (hs2 : (cut1 s 10).1.size < 4294967281) (hm : w.cell? ⟨1, 0, none⟩ = some (.int .i64 m)) :
    Calls Tryz.prog 81 #[.string s] w fun e w' => e = .returned (.tuple #[.string (lineR s).1, .string (lineR s).2.1, .string (lineR s).2.2.1, .bool (lineR s).2.2.2]) ∧ Dr w w' := by
  have H1 := hideIt (Tryz.strings_Cut s ⟨#[10]⟩ m w hs hm)
  have H2 : Hid (∀ W, Dr w W → Calls Tryz.prog 103 #[.string (cut1 s 10).1, .string ⟨#[32]⟩] W fun e w' => e = .returned (.tuple #[.string (cut1 (cut1 s 10).1 32).1, .string (cut1 (cut1 s 10).1 32).2.1, .bool (cut1 (cut1 s 10).1 32).2.2]) ∧ Dr w w') := hideIt (fun W hW => by
    obtain ⟨n, rfl⟩ := hW
    refine (Tryz.strings_Cut (cut1 s 10).1 ⟨#[32]⟩ m (w.drewN n) hs2 hm).mono ?_
    rintro e w' ⟨rfl, k, rfl⟩
    exact ⟨rfl, dr_add w n k⟩)
  have e1 : (⟨(Lib.cut s.data.toList (⟨#[10]⟩ : ByteArray).data.toList).1.toArray⟩ : ByteArray) = (cut1 s 10).1 := rfl
  have e2 : (⟨(Lib.cut s.data.toList (⟨#[10]⟩ : ByteArray).data.toList).2.1.toArray⟩ : ByteArray) = (cut1 s 10).2.1 := rfl
  have e3 : (Lib.cut s.data.toList (⟨#[10]⟩ : ByteArray).data.toList).2.2 = (cut1 s 10).2.2 := rfl
  rw [e1, e2, e3] at H1
  have HT : Hid ((lineR s).1 = (cut1 (cut1 s 10).1 32).1 ∧ (lineR s).2.1 = (cut1 (cut1 s 10).1 32).2.1 ∧ (lineR s).2.2.1 = (cut1 s 10).2.1 ∧ (lineR s).2.2.2 = ((cut1 s 10).2.2 && (cut1 (cut1 s 10).1 32).2.2)) := hideIt ⟨rfl, rfl, rfl, rfl⟩
  obtain ⟨t1, t2, t3, t4⟩ := HT.out
  rw [t1, t2, t3, t4]
  clear e1 e2 e3 t1 t2 t3 t4 HT
  generalize (cut1 (cut1 s 10).1 32).1 = A at *
  generalize (cut1 (cut1 s 10).1 32).2.1 = B at *
  generalize (cut1 (cut1 s 10).1 32).2.2 = C at *
  generalize (cut1 s 10).1 = D at *
  generalize (cut1 s 10).2.1 = E at *
  generalize (cut1 s 10).2.2 = F at *
  cases F
  · go_enter Tryz.func81, Tryz.ntmps81
    go_wp2_with (first
      | (go_at_call 103; refine (H2.out _ J1.out).mono ?_; rintro e w2 ⟨rfl, hw2⟩)
      | (go_at_call 103; refine H1.out.mono ?_; rintro e w1 ⟨rfl, hw1⟩; have J1 : Hid (Dr w w1) := hideIt hw1; clear hw1))
    refine bodyPost_ret (v := .tuple #[.string A, .string B, .string E, .bool false]) ?_ rfl ⟨rfl, hw2⟩
    simp [results, Tryz.results81]
  · go_enter Tryz.func81, Tryz.ntmps81
    go_wp2_with (first
      | (go_at_call 103; refine (H2.out _ J1.out).mono ?_; rintro e w2 ⟨rfl, hw2⟩)
      | (go_at_call 103; refine H1.out.mono ?_; rintro e w1 ⟨rfl, hw1⟩; have J1 : Hid (Dr w w1) := hideIt hw1; clear hw1))
    refine bodyPost_ret (v := .tuple #[.string A, .string B, .string E, .bool C]) ?_ rfl ⟨rfl, hw2⟩
    simp [results, Tryz.results81]
end Go.Proofs.YtknmmlfdlfioiaaGreatDoor.Rf
