/-
  query: arguments as they come in: facts, calls, texts; the law of facts.
-/
import Derived.Test.YtohdcmmkbblhkaaGreatDoorLQuBase
set_option linter.all false
namespace Go.Proofs.YtohdcmmkbblhkaaGreatDoor.qy
open Go.RowKit Go.ChangeShapes Go.WideShapes Go.Sort Go.Shelf Go.Proofs.YtohdcmmkbblhkaaGreatDoor.mem Go.Proofs.YtohdcmmkbblhkaaGreatDoor.wd
open Go.Proofs.YtohdcmmkbblhkaaGreatDoor.nm (Tab tab_below)

theorem cStr : Tryz.prog.cellsOf 9 = 1 := by kernel_rfl
theorem cSs : Tryz.prog.cellsOf 26 = 1 := by kernel_rfl
theorem cFa : Tryz.prog.cellsOf 48 = 2 := by kernel_rfl
theorem cEd : Tryz.prog.cellsOf 46 = 2 := by kernel_rfl
theorem bStr : Tryz.prog.bytesOf 9 = 16 := by kernel_rfl
theorem uFa : Tryz.prog.underlying 48 = some (.struct (Tryz.prog.fieldsOf 48)) := by kernel_rfl
theorem uEd : Tryz.prog.underlying 46 = some (.struct (Tryz.prog.fieldsOf 46)) := by kernel_rfl
theorem fFa : (Tryz.prog.fieldsOf 48).toList.map (fun f => (f.type, f.offset)) = [(9, 0), (26, 1)] := by kernel_rfl
theorem fEd : (Tryz.prog.fieldsOf 46).toList.map (fun f => (f.type, f.offset)) = [(9, 0), (9, 1)] := by kernel_rfl
theorem reach_le : reachBytes ≤ 140737488355328 := of_decide_eq_true (by kernel_rfl)

section
variable {H : Type} {enc : TypeId × Value → H} {W : World} {B : Nat}

theorem str_el {n : Nat} {u : Value} {y : DataW H × List MemPlace} (h : DataW.trod enc Tryz.prog W 0 (fun _ => true) true n 9 [u] = some y) (hw : ∀ m ∈ y.1.weights Tryz.prog 9, m ≤ B) : ∃ a : T, u = encStr a ∧ a.length ≤ maxLen ∧ a.length ≤ B := by
  obtain ⟨a, e, hd, hs⟩ := DataW.trod_string Tryz.underlying9 h
  simp only [List.cons.injEq, and_true] at e
  refine ⟨a.data.toList, by rw [e] <;> simp [encStr], by rw [Array.length_toList]; exact hs, hw _ ?_⟩
  rw [hd]
  simp [DataW.weights]

theorem txt_el (n : Nat) (cs : List Value) (y : DataW H × List MemPlace) (h : DataW.trod enc Tryz.prog W 0 (fun _ => true) true n 9 cs = some y) (hl : cs.length = 1) (hw : ∀ m ∈ y.1.weights Tryz.prog 9, m ≤ B) :
    ∃ x : T, cs = [encStr x] ∧ (x.length ≤ maxLen ∧ x.length ≤ B) := by
  match cs, hl with
  | [c0], _ =>
    obtain ⟨a0, rfl, s0⟩ := str_el (u := c0) h hw
    exact ⟨a0, rfl, s0⟩

theorem tbl_rd {w : World} {A : Option Addr} {l : List T} (h : Tbl w A 1 (l.map fun s => [encStr s])) : Rd w A (l.map encStr) := fun hz => by
  rw [List.length_map] at hz
  obtain ⟨b, off, e, hl, hc⟩ := h (by simpa using hz)
  refine ⟨b, off, e, hl, fun j hj => ?_⟩
  rw [List.length_map] at hj
  have := hc j (by simpa using hj) 0 (encStr l[j]) (by simp)
  rw [Nat.mul_one, Nat.add_zero] at this
  rw [this, List.getElem_map]

/-- a fact, and how much it may have -/
def FQ (W : World) (B : Nat) (x : MF) : Prop := FOk W x ∧ x.f.node.length ≤ B ∧ x.f.locs.length * 16 ≤ B ∧ ∀ s ∈ x.f.locs, s.length ≤ B
theorem fa_el (n : Nat) (cs : List Value) (y : DataW H × List MemPlace) (h : DataW.trod enc Tryz.prog W 0 (fun _ => true) true n 48 cs = some y) (hl : cs.length = 2) (hw : ∀ m ∈ y.1.weights Tryz.prog 48, m ≤ B) :
    ∃ x : MF, cs = x.row ∧ FQ W B x := by
  match cs, hl with
  | [c0, c1], _ =>
    obtain ⟨ys, m, _, hx, _, hl2, hf⟩ := DataW.trod_struct uFa h
    rw [hx] at hw
    obtain ⟨y0, h0, w0⟩ := fld fFa hl2 hf uFa hw 0 9 0 rfl
    obtain ⟨y1, h1, w1⟩ := fld fFa hl2 hf uFa hw 1 26 1 rfl
    rw [cStr] at h0
    rw [cSs] at h1
    obtain ⟨a0, rfl, s0, r0⟩ := str_el (u := c0) h0 w0
    have : Inhabited T := ⟨[]⟩
    obtain ⟨A, cap, l, rfl, ht, hq, hle, hmax, hby⟩ := wide_of (u := c1) (B := B) (fun s : T => [encStr s]) _ Tryz.underlying26 cStr (by decide) (fun _ => rfl) (fun n cs y => txt_el n cs y) h1 w1
    rw [bStr] at hby
    exact ⟨⟨⟨a0, l⟩, A, cap⟩, rfl, ⟨s0, tbl_rd ht, Nat.le_trans hle hmax, fun s hs => (hq s hs).1⟩, r0, hby, fun s hs => (hq s hs).2⟩

theorem ed_el (n : Nat) (cs : List Value) (y : DataW H × List MemPlace) (h : DataW.trod enc Tryz.prog W 0 (fun _ => true) true n 46 cs = some y) (hl : cs.length = 2) (hw : ∀ m ∈ y.1.weights Tryz.prog 46, m ≤ B) :
    ∃ x : Ed, cs = edRow x ∧ True := by
  match cs, hl with
  | [c0, c1], _ =>
    obtain ⟨ys, m, _, hx, _, hl2, hf⟩ := DataW.trod_struct uEd h
    rw [hx] at hw
    obtain ⟨y0, h0, w0⟩ := fld fEd hl2 hf uEd hw 0 9 0 rfl
    obtain ⟨y1, h1, w1⟩ := fld fEd hl2 hf uEd hw 1 9 1 rfl
    rw [cStr] at h0 h1
    obtain ⟨a0, rfl, _⟩ := str_el (u := c0) h0 w0
    obtain ⟨a1, rfl, _⟩ := str_el (u := c1) h1 w1
    exact ⟨(a0, a1), rfl, trivial⟩

set_option maxRecDepth 100000 in
theorem facts_of {base : Nat} (v : Value) (d : DataW H) (p : List MemPlace) (k : DataW.Trod enc Tryz.prog W 0 (fun _ => true) true 22 v d p) (o : Value.okWide Tryz.prog W .any base 22 v) (hw : ∀ m ∈ d.weights Tryz.prog 22, m ≤ reachBytes) :
    ∃ (A : Option Addr) (cap : Nat) (l : List MF), v = .slice A l.length cap ∧ FacM W A l ∧ (∀ x ∈ l, FBig x) ∧ l.length ≤ cap := by
  obtain ⟨a0, len, cap, rfl⟩ := okWide_slice Tryz.underlying22 o
  obtain ⟨fuel, hk⟩ := k
  have i0 : Inhabited MF := ⟨⟨⟨[], []⟩, none, 0⟩⟩
  obtain ⟨A, c, l, e, ht, hq, hle, hm, _⟩ := wide_of (u := .slice a0 len cap) (x := (d, p)) (B := reachBytes) MF.row (FQ W reachBytes) Tryz.underlying22 cFa (by decide) (fun _ => rfl) (fun n cs y => fa_el n cs y) hk hw
  have hr := reach_le
  refine ⟨A, c, l, e, ⟨ht, fun x hx => (hq x hx).1, Nat.le_trans hle hm⟩, fun x hx => ?_, hle⟩
  obtain ⟨_, h1, h2, h3⟩ := hq x hx
  exact ⟨Nat.le_trans h1 hr, by generalize x.f.locs.length = z at h2 ⊢; clear h1 h3 hq ht hk hw o; omega, fun s hs => Nat.le_trans (h3 s hs) hr⟩

set_option maxRecDepth 100000 in
theorem calls_of {base : Nat} (v : Value) (d : DataW H) (p : List MemPlace) (k : DataW.Trod enc Tryz.prog W 0 (fun _ => true) true 29 v d p) (o : Value.okWide Tryz.prog W .any base 29 v) (hw : ∀ m ∈ d.weights Tryz.prog 29, m ≤ reachBytes) :
    ∃ (A : Option Addr) (cap : Nat) (l : List Ed), v = .slice A l.length cap ∧ EdM W A l ∧ l.length ≤ maxLen := by
  obtain ⟨a0, len, cap, rfl⟩ := okWide_slice Tryz.underlying29 o
  obtain ⟨fuel, hk⟩ := k
  have i0 : Inhabited Ed := ⟨([], [])⟩
  obtain ⟨A, c, l, e, ht, hq, hle, hm, _⟩ := wide_of (u := .slice a0 len cap) (x := (d, p)) (B := reachBytes) edRow (fun _ => True) Tryz.underlying29 cEd (by decide) (fun _ => rfl) (fun n cs y => ed_el n cs y) hk hw
  exact ⟨A, c, l, e, ht, Nat.le_trans hle hm⟩

set_option maxRecDepth 100000 in
theorem txts_of {base : Nat} (v : Value) (d : DataW H) (p : List MemPlace) (k : DataW.Trod enc Tryz.prog W 0 (fun _ => true) true 26 v d p) (o : Value.okWide Tryz.prog W .any base 26 v) (hw : ∀ m ∈ d.weights Tryz.prog 26, m ≤ reachBytes) :
    ∃ (A : Option Addr) (cap : Nat) (l : List T), v = .slice A l.length cap ∧ Rd W A (l.map encStr) ∧ l.length ≤ maxLen := by
  obtain ⟨a0, len, cap, rfl⟩ := okWide_slice Tryz.underlying26 o
  obtain ⟨fuel, hk⟩ := k
  have i0 : Inhabited T := ⟨[]⟩
  obtain ⟨A, c, l, e, ht, hq, hle, hm, _⟩ := wide_of (u := .slice a0 len cap) (x := (d, p)) (B := reachBytes) (fun s : T => [encStr s]) _ Tryz.underlying26 cStr (by decide) (fun _ => rfl) (fun n cs y => txt_el n cs y) hk hw
  exact ⟨A, c, l, e, tbl_rd ht, Nat.le_trans hle hm⟩
end

theorem enc_bs (a : ByteArray) : Value.string a = encStr a.data.toList := by simp [encStr]

set_option maxRecDepth 100000 in
theorem pf_facts (H : Type) (enc : TypeId × Value → H) (W : World) {base : Nat} (v : Value) (d : DataW H) (p : List MemPlace) (k : DataW.Trod enc Tryz.prog W 0 (fun _ => true) true 22 v d p) (o : Value.okWide Tryz.prog W .any base 22 v) (hw : ∀ n ∈ d.weights Tryz.prog 22, n ≤ reachBytes)
    (a : ByteArray) (wa : a.size ≤ maxLen) (ra : a.size ≤ reachBytes) (b : ByteArray) (wb : b.size ≤ maxLen) (rb : b.size ≤ reachBytes) (htab : Tab W) :
    Calls Tryz.prog 3 #[v, .string a, .string b] W (BP true W) := by
  obtain ⟨A, c, l, rfl, hf, hb, _⟩ := facts_of v d p k o hw
  rw [enc_bs a, enc_bs b]
  exact law_facts_of W A c l _ _ hf hb htab (fun W' hb => (works_any W' (tab_below htab hb)).mono fun e w2 h => ⟨h.1, h.2⟩)

end Go.Proofs.YtohdcmmkbblhkaaGreatDoor.qy
