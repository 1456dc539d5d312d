/-
  DERIVED. GIVEN WITH THE SEED: THE CARDS: each row of YthamkigdpgajaaaDoorRows.lean that lists a variable, with what it lists TIED to the program's text (the seventh form; the later family's looks); each row that meets fmt, with fmt's text TOLD by the authors' own Lean function (tested against real Go, not proved from fmt's source: count such statements apart). THE CARD IS WHAT COUNTS. Prove the row's statement (the work); the ties are given (YthamkigdpgajaaaDoorTie.lean); close each card by the builder's one call (the guide's Derived/Test/ToyasCard.lean, 'card_holds'). Laid BY PROGRAM, IN A SANDBOX (cutbox-door.mjs). By AI agents, Wed Nov 11 2026. No macro, syntax, notation, axiom, sorry.
-/
import Derived.Test.YthamkigdpgajaaaDoorRows
import GoSem.ClaimSeven
namespace Go.Proofs.YthamkigdpgajaaaDoor
namespace Rows

/-- THE TIED CARD OF 'partbooklaw07.NotesMatchesReference'. -/
def notesMatchesReferenceCard : Claim7 := { stood := { row := notesMatchesReferenceRow, standIns := [], harness := (true, "f5b5a3f2a065f9a1a163d2c79143557c59399afc8d30f6e3707901685a6edcce"), looks := false }, kinds := [], alts := [], laidByText := true, laidKinds := [.data], laidTests := true, laidLooks := .later }
def NotesMatchesReferenceCardSaid : Prop := Claim7.holds Tryd.pinned (.plain (OpenSpec.ofChange notesMatchesReferenceSpec)) notesMatchesReferenceCard

/-- THE TIED CARD OF 'partbooklaw07.NotesOrder'. -/
def notesOrderCard : Claim7 := { stood := { row := notesOrderRow, standIns := [], harness := (true, "f5b5a3f2a065f9a1a163d2c79143557c59399afc8d30f6e3707901685a6edcce"), looks := false }, kinds := [], alts := [], laidByText := true, laidKinds := [.data], laidTests := true, laidLooks := .later }
def NotesOrderCardSaid : Prop := Claim7.holds Tryd.pinned (.plain (OpenSpec.ofChange notesOrderSpec)) notesOrderCard

/-- THE TIED CARD OF 'partbooklaw07.NotesBars'. -/
def notesBarsCard : Claim7 := { stood := { row := notesBarsRow, standIns := [], harness := (true, "f5b5a3f2a065f9a1a163d2c79143557c59399afc8d30f6e3707901685a6edcce"), looks := false }, kinds := [], alts := [], laidByText := true, laidKinds := [.data], laidTests := true, laidLooks := .later }
def NotesBarsCardSaid : Prop := Claim7.holds Tryd.pinned (.plain (OpenSpec.ofChange notesBarsSpec)) notesBarsCard

/-- THE TIED CARD OF 'partbooklaw07.NotesPlay'. -/
def notesPlayCard : Claim7 := { stood := { row := notesPlayRow, standIns := [], harness := (true, "f5b5a3f2a065f9a1a163d2c79143557c59399afc8d30f6e3707901685a6edcce"), looks := false }, kinds := [], alts := [], laidByText := true, laidKinds := [.data], laidTests := true, laidLooks := .later }
def NotesPlayCardSaid : Prop := Claim7.holds Tryd.pinned (.plain (OpenSpec.ofChange notesPlaySpec)) notesPlayCard

/-- THE TIED CARD OF 'partbooklaw07.NotesFewer'. -/
def notesFewerCard : Claim7 := { stood := { row := notesFewerRow, standIns := [], harness := (true, "f5b5a3f2a065f9a1a163d2c79143557c59399afc8d30f6e3707901685a6edcce"), looks := false }, kinds := [], alts := [], laidByText := true, laidKinds := [.data], laidTests := true, laidLooks := .later }
def NotesFewerCardSaid : Prop := Claim7.holds Tryd.pinned (.plain (OpenSpec.ofChange notesFewerSpec)) notesFewerCard

/-- THE TIED CARD OF 'partbooklaw07.NotesOthers'. -/
def notesOthersCard : Claim7 := { stood := { row := notesOthersRow, standIns := [], harness := (true, "f5b5a3f2a065f9a1a163d2c79143557c59399afc8d30f6e3707901685a6edcce"), looks := false }, kinds := [], alts := [], laidByText := true, laidKinds := [.data], laidTests := true, laidLooks := .later }
def NotesOthersCardSaid : Prop := Claim7.holds Tryd.pinned (.plain (OpenSpec.ofChange notesOthersSpec)) notesOthersCard

/-- THE SECOND FORM's CARD OF 'partbooklaw07.NotesMatchesReference'. -/
def notesMatchesReferenceUptoCard : Claim7 := { stood := { row := notesMatchesReferenceUptoRow, standIns := [], harness := (true, "f5b5a3f2a065f9a1a163d2c79143557c59399afc8d30f6e3707901685a6edcce"), looks := false }, kinds := [], alts := [], laidByText := true, laidKinds := [.data], laidTests := true, laidLooks := .later }
def NotesMatchesReferenceUptoCardSaid : Prop := Claim7.holds Tryd.pinned (.plain (OpenSpec.upto notesMatchesReferenceSpec)) notesMatchesReferenceUptoCard

/-- THE SECOND FORM's CARD OF 'partbooklaw07.NotesOrder'. -/
def notesOrderUptoCard : Claim7 := { stood := { row := notesOrderUptoRow, standIns := [], harness := (true, "f5b5a3f2a065f9a1a163d2c79143557c59399afc8d30f6e3707901685a6edcce"), looks := false }, kinds := [], alts := [], laidByText := true, laidKinds := [.data], laidTests := true, laidLooks := .later }
def NotesOrderUptoCardSaid : Prop := Claim7.holds Tryd.pinned (.plain (OpenSpec.upto notesOrderSpec)) notesOrderUptoCard

/-- THE SECOND FORM's CARD OF 'partbooklaw07.NotesBars'. -/
def notesBarsUptoCard : Claim7 := { stood := { row := notesBarsUptoRow, standIns := [], harness := (true, "f5b5a3f2a065f9a1a163d2c79143557c59399afc8d30f6e3707901685a6edcce"), looks := false }, kinds := [], alts := [], laidByText := true, laidKinds := [.data], laidTests := true, laidLooks := .later }
def NotesBarsUptoCardSaid : Prop := Claim7.holds Tryd.pinned (.plain (OpenSpec.upto notesBarsSpec)) notesBarsUptoCard

/-- THE SECOND FORM's CARD OF 'partbooklaw07.NotesPlay'. -/
def notesPlayUptoCard : Claim7 := { stood := { row := notesPlayUptoRow, standIns := [], harness := (true, "f5b5a3f2a065f9a1a163d2c79143557c59399afc8d30f6e3707901685a6edcce"), looks := false }, kinds := [], alts := [], laidByText := true, laidKinds := [.data], laidTests := true, laidLooks := .later }
def NotesPlayUptoCardSaid : Prop := Claim7.holds Tryd.pinned (.plain (OpenSpec.upto notesPlaySpec)) notesPlayUptoCard

/-- THE SECOND FORM's CARD OF 'partbooklaw07.NotesFewer'. -/
def notesFewerUptoCard : Claim7 := { stood := { row := notesFewerUptoRow, standIns := [], harness := (true, "f5b5a3f2a065f9a1a163d2c79143557c59399afc8d30f6e3707901685a6edcce"), looks := false }, kinds := [], alts := [], laidByText := true, laidKinds := [.data], laidTests := true, laidLooks := .later }
def NotesFewerUptoCardSaid : Prop := Claim7.holds Tryd.pinned (.plain (OpenSpec.upto notesFewerSpec)) notesFewerUptoCard

/-- THE SECOND FORM's CARD OF 'partbooklaw07.NotesOthers'. -/
def notesOthersUptoCard : Claim7 := { stood := { row := notesOthersUptoRow, standIns := [], harness := (true, "f5b5a3f2a065f9a1a163d2c79143557c59399afc8d30f6e3707901685a6edcce"), looks := false }, kinds := [], alts := [], laidByText := true, laidKinds := [.data], laidTests := true, laidLooks := .later }
def NotesOthersUptoCardSaid : Prop := Claim7.holds Tryd.pinned (.plain (OpenSpec.upto notesOthersSpec)) notesOthersUptoCard
end Rows
end Go.Proofs.YthamkigdpgajaaaDoor
