/-
  impl's readers of words, numbers, signs: the token with which a text begins. They write nothing that was there.
-/
import Derived.Test.YtamjfbjkdicmcaaGreatDoorBImplSigns
import Derived.Test.YtamjfbjkdicmcaaGreatDoorBWide
namespace Go.Proofs.YtamjfbjkdicmcaaGreatDoor.ImplRead
open Go.RowKit
open Strs
def Tv (r : Option (Tok.T × Nat)) (w : World) (e : Ending) (w' : World) : Prop := match r with
  | some (t, n) => e = .returned (.tuple #[.agg #[.int .i64 t.kind, .string t.text, .int .i64 t.num], .int .i64 (n : Nat)]) ∧ Below w.heap.size w w'
  | none => ∃ (k : Int) (t : ByteArray) (n : Int), e = .returned (.tuple #[.agg #[.int .i64 k, .string t, .int .i64 n], .int .i64 0]) ∧ Below w.heap.size w w'
structure Box (w : World) (B : Nat) (wr : World) : Prop where
  below : Below B w wr
  size : B + 1 ≤ wr.heap.size
  c0 : wr.cell? ⟨B, 0, none⟩ = some (.int .i64 0)
  c1 : wr.cell? ⟨B, 1, none⟩ = some (.string ⟨#[]⟩)
  c2 : wr.cell? ⟨B, 2, none⟩ = some (.int .i64 0)
  fz : ∀ o, wr.frozen? ⟨B, o, none⟩ = false
theorem Box.step {w wr w' : World} {B : Nat} (h : Box w B wr) (hb : Below wr.heap.size wr w') : Box w B w' :=
  ⟨h.below.trans (hb.mono (by have := h.size; omega)), Nat.le_trans h.size hb.size, cell_keep hb h.c0, cell_keep hb h.c1, cell_keep hb h.c2, fun o => (hb.frozen (p := ⟨B, o, none⟩) (by have := h.size; simp; omega)).trans (h.fz o)⟩
theorem box_new (w : World) : Box w w.heap.size (w.alloc (.cells #[.int .i64 0, .string ⟨#[]⟩, .int .i64 0] 31)) := by
  refine ⟨(Below.refl _ _).alloc (Nat.le_refl _) _, by simp, ?_, ?_, ?_, ?_⟩
  all_goals first | (intro o; go_simp) | go_simp
theorem marks_any (w : World) : Calls Tryz.prog 62 #[] w (ImplSigns.List Tok.marks w) := by
  go_enter Tryz.func62, Tryz.ntmps62
  go_wp2
  go_ret
  refine ImplSigns.list_at w _ Tok.marks 10 rfl (by omega) (fun j hj => ?_)
  obtain rfl | rfl | rfl | rfl | rfl | rfl | rfl | rfl | rfl | rfl : j = 0 ∨ j = 1 ∨ j = 2 ∨ j = 3 ∨ j = 4 ∨ j = 5 ∨ j = 6 ∨ j = 7 ∨ j = 8 ∨ j = 9 := by omega
  all_goals rfl
theorem starts_colon (s : ByteArray) (w : World) :
    Calls Tryz.prog 54 #[.string s] w (ImplTok.Part (Tok.colon s.data.toList 0) w) := by
  have HV := Lib.hid (Tok.colon_is s)
  have KS := fun v w h => Lib.hid (ImplSigns.sign_any s v Tok.marks w h)
  have HC : Hid (ByteArray.toList ⟨#[58]⟩ = [58]) := by show _ = _; rw [ByteArray.toList_eq]
  rw [HC.out] at HV
  generalize Tok.starts s 0 Tok.marks = x at *
  go_enter Tryz.func54, Tryz.ntmps54
  go_wp2_with fail
  refine (marks_any _).mono ?_
  rintro e w1 ⟨a, c, rfl, hat, hb1⟩
  go_wp2_with fail
  refine (KS _ _ hat).out.mono ?_
  rintro e w2 ⟨rfl, rfl⟩
  go_wp2_with fail
  go_ret
  exact ⟨by rw [HV.out]; rfl, hb1⟩
theorem colon_at (s : ByteArray) (e : Nat) (b : Bool) (w : World) (h : Tok.colon s.data.toList e = b) :
    Calls Tryz.prog 54 #[.string (s.extract e s.size)] w (ImplTok.Part b w) := by
  have h1 := starts_colon (s.extract e s.size) w
  have h2 : Tok.colon (s.extract e s.size).data.toList 0 = b := by
    rw [← h, show s.extract e s.size = Tok.rest s e from rfl, Tok.rest_data, ← Tok.colon_rest]; rfl
  rwa [h2] at h1
set_option maxRecDepth 10000 in
set_option maxHeartbeats 4000000 in
theorem word_any (s : ByteArray) (w : World) :
    Calls Tryz.prog 23 #[.string s] w (Tv (Tok.nameAt s 0) w) := by
  have hle := Tok.run_le s.data.toList 0 (Nat.zero_le _)
  rw [Tok.len_list] at hle
  have KW := fun w => Lib.hid (ImplTok.word_any s w)
  unfold ImplTok.Word at KW
  have HV : Hid (Tok.nameAt s 0 = (let e := Tok.run s.data.toList 0; let x := s.extract 0 e; if 20 < e - 0 then none else if Tok.colon s.data.toList e = true then some (⟨2, x ++ ⟨#[58]⟩, 0⟩, e + 1) else some (⟨if Tok.has Tok.words x = true then 8 else 1, x, 0⟩, e))) := rfl
  have hsz : (s.extract 0 (Tok.run s.data.toList 0)).size = Tok.run s.data.toList 0 := by
    rw [← Tok.len_list, Tok.ext_data, List.length_take, List.length_drop, Tok.len_list]; omega
  generalize Tok.run s.data.toList 0 = n at *
  simp only [Nat.sub_zero] at HV
  have HX : Hid (Tok.colon s.data.toList n = true → s.extract 0 (n + 1) = s.extract 0 n ++ ⟨#[58]⟩) := Tok.colon_piece s n
  have HL : Hid (Tok.colon s.data.toList n = true → n + 1 ≤ s.size) := fun h => by have := Tok.colon_lt _ _ h; rw [Tok.len_list] at this; exact this
  have KC := fun b w h => Lib.hid (colon_at s n b w h)
  have KI := fun w => Lib.hid (ImplTok.is_word (s.extract 0 n) w)
  have BX := Lib.hid (box_new w)
  generalize s.extract 0 n = x at *
  subst hsz
  obtain ⟨-, hle⟩ := hle
  by_cases h20 : (20 : Int) < (x.size : Int)
  · have HR : Hid (Tok.nameAt s 0 = none) := by show _ = _; rw [HV.out, if_pos (by omega)]
    rw [HR.out]
    clear HV HR
    go_enter Tryz.func23, Tryz.ntmps23
    go_wp2_with fail
    refine (KW _).out.mono ?_
    rintro e w1 ⟨rfl, hb1⟩
    obtain ⟨hbw, hz, c0, c1, c2, hf⟩ := BX.out.step hb1
    clear hb1
    go_wp2_with fail
    exact bodyPost_ret (v := .tuple #[.agg #[.int .i64 0, .string ⟨#[]⟩, .int .i64 0], .int .i64 0]) (by simp [results, Tryz.results23, go_sem, *]) rfl ⟨0, _, 0, rfl, (by repeat (first | assumption | refine Below.setCell ?_ (by exact Nat.le_refl _) _))⟩
  · cases hc : Tok.colon s.data.toList x.size with
    | true =>
      have HR : Hid (Tok.nameAt s 0 = some (⟨2, x ++ ⟨#[58]⟩, 0⟩, x.size + 1)) := by show _ = _; rw [HV.out, if_neg (by omega), if_pos hc]
      rw [HR.out]
      have HX1 := Lib.hid (HX.out hc)
      have hl1 := HL.out hc
      have KC1 := fun w => KC true w hc
      clear HV HR HX HL KC hc
      go_enter Tryz.func23, Tryz.ntmps23
      go_wp2_with fail
      refine (KW _).out.mono ?_
      rintro e w1 ⟨rfl, hb1⟩
      have BX1 := Lib.hid (BX.out.step hb1); clear BX hb1
      go_wp2_with fail
      refine (KC1 _).out.mono ?_
      rintro e w2 ⟨rfl, hb2⟩
      obtain ⟨hbw, hz, c0, c1, c2, hf⟩ := BX1.out.step hb2
      clear hb2 BX1
      go_wp2_with fail
      exact bodyPost_ret (v := .tuple #[.agg #[.int .i64 2, .string (s.extract 0 (x.size + 1)), .int .i64 0], .int .i64 ((x.size : Int) + 1)]) (by simp [results, Tryz.results23, go_sem, *]) rfl ⟨by rw [HX1.out]; rfl, (by repeat (first | assumption | refine Below.setCell ?_ (by exact Nat.le_refl _) _))⟩
    | false =>
      have HR : Hid (Tok.nameAt s 0 = some (⟨if Tok.has Tok.words x = true then 8 else 1, x, 0⟩, x.size)) := by show _ = _; rw [HV.out, if_neg (by omega), hc]; rfl
      rw [HR.out]
      have KC1 := fun w => KC false w hc
      clear HV HR HX HL KC hc
      cases hw : Tok.has Tok.words x with
      | true =>
        rw [hw] at KI
        clear hw
        go_enter Tryz.func23, Tryz.ntmps23
        go_wp2_with fail
        refine (KW _).out.mono ?_
        rintro e w1 ⟨rfl, hb1⟩
        have BX1 := Lib.hid (BX.out.step hb1); clear BX hb1
        go_wp2_with fail
        refine (KC1 _).out.mono ?_
        rintro e w2 ⟨rfl, hb2⟩
        have BX2 := Lib.hid (BX1.out.step hb2); clear BX1 hb2
        go_wp2_with fail
        refine (KI _).out.mono ?_
        rintro e w3 ⟨rfl, rfl⟩
        obtain ⟨hbw, hz, c0, c1, c2, hf⟩ := BX2.out
        clear BX2
        go_wp2_with fail
        exact bodyPost_ret (v := .tuple #[.agg #[.int .i64 8, .string x, .int .i64 0], .int .i64 (x.size : Int)]) (by simp [results, Tryz.results23, go_sem, *]) rfl ⟨rfl, (by repeat (first | assumption | refine Below.setCell ?_ (by exact Nat.le_refl _) _))⟩
      | false =>
        rw [hw] at KI
        clear hw
        go_enter Tryz.func23, Tryz.ntmps23
        go_wp2_with fail
        refine (KW _).out.mono ?_
        rintro e w1 ⟨rfl, hb1⟩
        have BX1 := Lib.hid (BX.out.step hb1); clear BX hb1
        go_wp2_with fail
        refine (KC1 _).out.mono ?_
        rintro e w2 ⟨rfl, hb2⟩
        have BX2 := Lib.hid (BX1.out.step hb2); clear BX1 hb2
        go_wp2_with fail
        refine (KI _).out.mono ?_
        rintro e w3 ⟨rfl, rfl⟩
        obtain ⟨hbw, hz, c0, c1, c2, hf⟩ := BX2.out
        clear BX2
        go_wp2_with fail
        exact bodyPost_ret (v := .tuple #[.agg #[.int .i64 1, .string x, .int .i64 0], .int .i64 (x.size : Int)]) (by simp [results, Tryz.results23, go_sem, *]) rfl ⟨rfl, (by repeat (first | assumption | refine Below.setCell ?_ (by exact Nat.le_refl _) _))⟩
end Go.Proofs.YtamjfbjkdicmcaaGreatDoor.ImplRead
