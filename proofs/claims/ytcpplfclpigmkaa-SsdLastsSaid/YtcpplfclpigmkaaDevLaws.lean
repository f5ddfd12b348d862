/- What the laws of devices share: their memory. -/
import Derived.Test.YtcpplfclpigmkaaDevSt
namespace Go.Proofs.Ytcpplfclpigmkaa
open Go.RowKit
set_option maxRecDepth 20000

section
variable {σ τ : Type} {I : (Nat → Prop) → World → Value → σ → Prop} {J : (Nat → Prop) → World → Value → τ → Prop} {w wr : World} {F G : Nat → Prop} {v u : Value} {s : σ} {t : τ}
/-- Bytes that were there ahead of both. -/
theorem Duo.arg (h : Duo I J w F v s G u t wr) {x : Option Addr} {n : Nat} {xs : List Int} (hx : SAt w x n xs) : SIn (fun k => ¬ F k ∧ ¬ G k) wr x n xs :=
  (hx.inn.off (F := fun _ => False) (Off.of_below h.hB) (fun _ _ _ h => h)).mono (fun b _ hb => ⟨fun hf => by have := h.hF b hf; omega, fun hg => by have := h.hG b hg; omega⟩)
/-- A row that is laid now. -/
theorem Duo.row (hI : ObjBase I) (hJ : ObjBase J) (h : Duo I J w F v s G u t wr) (zs : List Int) (n : Nat) (hn : zs.length = n) : SIn (fun k => ¬ F k ∧ ¬ G k) (wr.alloc (.cells (zs.map (Value.int .u8)).toArray 5)) (some ⟨wr.heap.size, 0, none⟩) n zs :=
  ⟨hn, fun _ => ⟨wr.heap.size, 0, rfl, by simp, ⟨(h.new hI hJ).1, (h.new hI hJ).2.1⟩, fun i hi => by simp [hi]⟩⟩
theorem KIn.arg (h : Duo I J w F v s G u t wr) {x : Option Addr} {n : Nat} {K : List Bool} (hx : KIn (fun k => k < w.heap.size) w x n K) : KIn (fun k => ¬ F k) wr x n K :=
  (hx.off (F := fun _ => False) (Off.of_below h.hB) (fun _ _ _ h => h)).mono (fun b _ hb hf => by have := h.hF b hf; omega)
end
/-- Bytes that are neither object's stay so behind a call on the first. -/
theorem KeptG.sin {σ : Type} {I : (Nat → Prop) → World → Value → σ → Prop} {F F' G : Nat → Prop} {w w' : World} {v : Value} {s' : σ} (hK : KeptG I F w v F' w' s') {x : Option Addr} {n : Nat} {xs : List Int} (h : SIn (fun k => ¬ F k ∧ ¬ G k) w x n xs) : SIn (fun k => ¬ F' k ∧ ¬ G k) w' x n xs :=
  ((h.mono (G' := fun k => k < w.heap.size ∧ ¬ F k ∧ ¬ G k) (fun _ hl h => ⟨hl, h⟩)).off hK.off (fun _ _ h => h.2.1)).mono (fun b _ h => ⟨fun hf => (hK.sub b hf).elim h.2.1 (fun e => by have := h.1; omega), h.2.2⟩)
theorem KeptG.tin {σ : Type} {I : (Nat → Prop) → World → Value → σ → Prop} {F F' : Nat → Prop} {w w' : World} {v : Value} {s' : σ} (hK : KeptG I F w v F' w' s') {x : Option Addr} {n : Nat} {L : List (Int × List Int)} (h : TIn (fun k => ¬ F k) w x n L) : TIn (fun _ => True) w' x n L := by
  refine ⟨h.1, fun hm => ?_⟩
  obtain ⟨b, o, e, hlt, _, hr⟩ := (h.off hK.off (fun _ _ h => h)).2 hm
  refine ⟨b, o, e, hlt, trivial, fun i hi => ⟨(hr i hi).1, ?_⟩⟩
  obtain ⟨y, c, h1, h2, h3⟩ := (hr i hi).2
  exact ⟨y, c, h1, h2.mono (fun _ _ _ => trivial), h3⟩
/-- New memory of a call on the first is neither's. -/
theorem SIn.newD {σ τ : Type} {I : (Nat → Prop) → World → Value → σ → Prop} {J : (Nat → Prop) → World → Value → τ → Prop} {F F' G : Nat → Prop} {w0 w w' : World} {v u : Value} {s : σ} {t : τ} (hJ : ObjBase J) (M : Duo I J w0 F v s G u t w) {x : Option Addr} {n : Nat} {xs : List Int} (h : SIn (NewOf w F') w' x n xs) : SIn (fun k => ¬ F' k ∧ ¬ G k) w' x n xs :=
  h.mono (fun b _ hb => ⟨hb.2, fun hg => by have := hJ.lt M.two b hg; have := hb.1; omega⟩)
theorem bytes_nil : Bytes [] := fun x hx => by cases hx
theorem splice_len (L : List Int) (off : Nat) (cs : List Int) (h : off + cs.length ≤ L.length) : (splice L off cs).length = L.length := length_splice L off cs h
theorem layW_one (b : List Int) (off : Nat) (xs : List Int) : layW b [(off, xs)] = splice b off xs := rfl
theorem kept_step : ∀ (L : List (Nat × List Int)) (K : List Bool) (k : Nat) (o : Nat × List Int), k < L.length → L.getD k (0, []) = o → keptOf (L.take (k + 1)) K = keptOf (L.take k) K ++ if K.getD k false = true then [o] else []
  | [], _, _, _, h, _ => absurd h (by simp)
  | a :: L, [], k, o, _, _ => by simp [keptOf]
  | a :: L, κ :: K, 0, o, _, h => by
    have : a = o := h
    subst this
    cases κ <;> simp [keptOf]
  | a :: L, κ :: K, k + 1, o, hk, h => by
    have ih := kept_step L K k o (by simpa using hk) h
    have e : ∀ X, keptOf (a :: X) (κ :: K) = (if κ = true then [a] else []) ++ keptOf X K := fun X => by cases κ <;> simp [keptOf]
    rw [List.take_succ_cons, List.take_succ_cons, e, e, ih, List.append_assoc]
    rfl
theorem kept_mem {L : List (Nat × List Int)} {K : List Bool} {o : Nat × List Int} (h : o ∈ keptOf L K) : o ∈ L := by
  unfold keptOf at h
  obtain ⟨x, hx, rfl⟩ := List.mem_map.1 h
  exact (List.of_mem_zip (List.mem_filter.1 hx).1).1
end Go.Proofs.Ytcpplfclpigmkaa
